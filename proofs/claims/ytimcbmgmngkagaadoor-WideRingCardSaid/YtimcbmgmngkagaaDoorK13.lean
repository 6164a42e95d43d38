/-
  WideRing: for every string, string, string the law returns true, and all arguments read as they did. Conditions: the five listed variables of strconv and math/bits lie as the program's text lays them (the card ties them to it).
-/
import Derived.Laws.EntriesVeiled
import Derived.Test.YtimcbmgmngkagaaDoorRows
import Derived.Stop.LaidErr
import Derived.Lib.LaidTab
import Derived.LaidHandle
import Derived.LaidMore
import Derived.MakeChecks
import Derived.ProofKit
import Derived.OpenShut
import Derived.Stop.Joined
import Derived.Test.YtimcbmgmngkagaaDoorTie
import Derived.Test.YtimcbmgmngkagaaDoorCards
import Derived.SevenTiedAt
import Derived.Test.YtimcbmgmngkagaaDoorK1
import Derived.Test.YtimcbmgmngkagaaDoorK2
import Derived.Test.YtimcbmgmngkagaaDoorK3
import Derived.Test.YtimcbmgmngkagaaDoorK4
import Derived.Test.YtimcbmgmngkagaaDoorK5
import Derived.Test.YtimcbmgmngkagaaDoorK6
import Derived.Test.YtimcbmgmngkagaaDoorK7
import Derived.Test.YtimcbmgmngkagaaDoorK8
import Derived.Test.YtimcbmgmngkagaaDoorK9
import Derived.Test.YtimcbmgmngkagaaDoorK10
import Derived.Test.YtimcbmgmngkagaaDoorK11
import Derived.Test.YtimcbmgmngkagaaDoorK12
namespace Go.Proofs.YtimcbmgmngkagaaDoor
open Go.RowKit Go.Maps

theorem MinorV.mono {w : World} {br bk bf bm : Nat} {ra : Option Addr} {n c cnt cnt' : Nat} {M : List (List Int)} {z : Int} {L : Nat} {e : Ending} {w' : World} (h : MinorV w br bk bf bm ra n c cnt M z L e w') (hc : cnt ≤ cnt') : MinorV w br bk bf bm ra n c cnt' M z L e w' := by
  obtain ⟨neg, p, m, d, xs, g', h1, h2, h3, h4⟩ := h
  exact ⟨neg, p, m, d, xs, g', h1, h2, h3.mono hc, h4⟩

theorem minor_any (br bk bf bm : Nat) (ra : Option Addr) (n c : Nat) (M : List (List Int)) (hn : n ≤ 6) (hM : M.length = n) (hsq : ∀ row ∈ M, row.length = n) :
    ∀ (k r u cnt : Nat) (g : Nat → Option Value) (w : World), r + k = n → u < 2 ^ n → pop n u = r → cnt + detS k ≤ 900000 → DetIs w br bk bf bm ra n c cnt M g →
      Calls Tryd.prog 59 (minorArgs r u br bk bf) w (MinorV w br bk bf bm ra n c (cnt + detS k) M (minorZ M n k u) (detL k)) := by
  intro k
  induction k with
  | zero =>
    intro r u cnt g w hr hu hp hc hd
    obtain rfl : r = n := by omega
    exact minor_none br bk bf bm ra r c cnt M g u w hn hd
  | succ k ih =>
    intro r u cnt g w hr hu hp hc hd
    cases hg : g u with
    | none => exact minor_step br bk bf bm ra n c M k hn hM hsq ih r u cnt g w hr hu hp hc hd hg
    | some v =>
      have h := minor_known br bk bf bm ra n c cnt M g r u w hn (by omega) hu hp hd v hg
      rw [show n - r = k + 1 by omega] at h
      exact h.mono fun e w' h => h.mono (by omega)

/-- Where the closure's variables lie. -/
def detW (w : World) (ra : Option Addr) (n c : Nat) : World :=
  (((((w.alloc (.cells #[.slice ra n c] 78)).alloc (.cells #[.bool false, .slice none 0 0] 47)).alloc (.map #[] 0)).alloc (.cells #[.map (some (w.heap.size + 1 + 1))] 98)).alloc
    (.cells #[.func (.func 59) #[] #[.pointer (some ⟨w.heap.size, 0, none⟩), .pointer (some ⟨w.heap.size + 1 + 1 + 1, 0, none⟩), .pointer (some ⟨w.heap.size + 1 + 1 + 1 + 1, 0, none⟩)]] 99))

theorem det_start (w : World) (ra : Option Addr) (n c : Nat) (M : List (List Int)) (hr : RowsIs w ra M 223) :
    DetIs (detW w ra n c) w.heap.size (w.heap.size + 1 + 1 + 1) (w.heap.size + 1 + 1 + 1 + 1) (w.heap.size + 1 + 1) ra n c 0 M (fun _ => none) ∧ Boxed2 (detW w ra n c) (w.heap.size + 1) (.bool false) (.slice none 0 0) 47 ∧ Below w.heap.size w (detW w ra n c) := by
  have hb : Below w.heap.size w (detW w ra n c) := by
    unfold detW
    exact (((((Below.refl _ w).alloc (Nat.le_refl _) _).alloc (by simp) _).alloc (by rw [World.size_alloc, World.size_alloc]; omega) _).alloc (by rw [World.size_alloc, World.size_alloc, World.size_alloc]; omega) _).alloc (by rw [World.size_alloc, World.size_alloc, World.size_alloc, World.size_alloc]; omega) _
  have keep : ∀ {W : World} {o' : Obj} (o : Obj) (i : Nat), W.heap[i]? = some o' → (W.alloc o).heap[i]? = some o' := fun {W} {_} o i h => ((World.grownBy_alloc W o none).block i (Array.getElem?_eq_some_iff.1 h).1 (by simp)).trans h
  refine ⟨{ r := ?_, k := ?_, f := ?_, m := ?_, rows := hr.below hb, kept := fun u v h => by cases h }, ?_, hb⟩
  · exact keep _ _ (keep _ _ (keep _ _ (keep _ _ (World.alloc_heap_new w _))))
  · refine keep _ _ ?_
    have := World.alloc_heap_new (((w.alloc (.cells #[.slice ra n c] 78)).alloc (.cells #[.bool false, .slice none 0 0] 47)).alloc (.map #[] 0)) (.cells #[.map (some (w.heap.size + 1 + 1))] 98)
    rwa [World.size_alloc, World.size_alloc, World.size_alloc] at this
  · have := World.alloc_heap_new ((((w.alloc (.cells #[.slice ra n c] 78)).alloc (.cells #[.bool false, .slice none 0 0] 47)).alloc (.map #[] 0)).alloc (.cells #[.map (some (w.heap.size + 1 + 1))] 98)) (.cells #[.func (.func 59) #[] #[.pointer (some ⟨w.heap.size, 0, none⟩), .pointer (some ⟨w.heap.size + 1 + 1 + 1, 0, none⟩), .pointer (some ⟨w.heap.size + 1 + 1 + 1 + 1, 0, none⟩)]] 99)
    rwa [World.size_alloc, World.size_alloc, World.size_alloc, World.size_alloc] at this
  · have h := MapIs.made ((w.alloc (.cells #[.slice ra n c] 78)).alloc (.cells #[.bool false, .slice none 0 0] 47))
    have e : ((w.alloc (.cells #[.slice ra n c] 78)).alloc (.cells #[.bool false, .slice none 0 0] 47)).heap.size = w.heap.size + 1 + 1 := by simp
    rw [e] at h
    exact (h.kept (World.grownBy_alloc _ _ none) (by simp)).kept (World.grownBy_alloc _ _ none) (by simp)
  · refine keep _ _ (keep _ _ (keep _ _ ?_))
    have := World.alloc_heap_new (w.alloc (.cells #[.slice ra n c] 78)) (.cells #[.bool false, .slice none 0 0] 47)
    rwa [World.size_alloc] at this

set_option maxHeartbeats 1000000 in
theorem determinant_in (ra : Option Addr) (n c : Nat) (M : List (List Int)) (w : World) (hn : n ≤ 6) (hM : M.length = n) (hsq : ∀ row ∈ M, row.length = n) (hr : RowsIs w ra M 223) :
    Calls Tryd.prog 45 #[.slice ra n c] w (NumV w (detZ M) (detL n)) := by
  have hmm := @run_makeMap Tryd.prog
  have hmf : ∀ (fn : Fn) (first cap : Array Value) (w : World), (Instr.makeFunc fn first cap).run Tryd.prog w = .ok (.func fn first cap) w := fun _ _ _ _ => rfl
  obtain ⟨h1, h2, h3⟩ := det_start w ra n c M hr
  have hcall := minor_any w.heap.size (w.heap.size + 1 + 1 + 1) (w.heap.size + 1 + 1 + 1 + 1) (w.heap.size + 1 + 1) ra n c M hn hM hsq n 0 0 0 (fun _ => none) (detW w ra n c) (by omega) (Nat.pow_pos (by decide)) (pop_zero n) (by have h4 : detS 6 = 9331 := (by decide); have h5 := detS_mono hn; omega) h1
  have hz : detZ M = minorZ M n n 0 := by unfold detZ; rw [hM]
  rw [hz]
  have HC := Lib.hid hcall
  have H1 := Lib.hid h1
  have H2 := Lib.hid h2
  have H3 := Lib.hid h3
  clear hr hM hsq hz hcall h1 h2 h3
  go_enter Tryd.func45, Tryd.ntmps45
  go_wp2_with fail
  refine HC.out.mono ?_
  rintro e w5 ⟨neg, p, m, d, xs, g', rfl, hx, hd, hg⟩
  have b5 := H2.out.grown H1.out.m.at hg
  have c0 := b5.cell0
  have c1 := b5.cell1
  have q0 := b5.frozen (i := 0)
  have q1 := b5.frozen (i := 1)
  have hb5 : Below w.heap.size w w5 := H3.out.trans ⟨hg.os, hg.tape, hg.output, hg.size, fun i hi => hg.block i (Nat.lt_of_lt_of_le hi H3.out.size) (fun e => by cases e; omega)⟩
  clear hg hd
  go_wp2_with fail
  have e0 := b5.set (.bool neg) (.slice p m d)
  have z0 := e0.cell0
  have z1 := e0.cell1
  exact bodyPost_ret (v := .agg #[.bool neg, .slice p m d]) (by simp [results, Tryd.results45, go_sem, z0, z1]) rfl ⟨neg, p, m, d, xs, rfl, hx.set2 b5 _ _, (hb5.setCell (by simp) _).setCell (by simp) _⟩

end Go.Proofs.YtimcbmgmngkagaaDoor

namespace Go.Proofs.YtimcbmgmngkagaaDoor
open Go.RowKit Go.Maps

/-- Rows of strings. -/
def RdM (w : World) (a : Option Addr) (m : List (List ByteArray)) : Prop :=
  ∀ i row, m[i]? = some row → ∃ b off p c, a = some ⟨b, off, none⟩ ∧ b < w.heap.size ∧ w.cell? ⟨b, off + i, none⟩ = some (.slice p row.length c) ∧ RdS w p row

theorem RdM.below {w w' : World} {a : Option Addr} {m : List (List ByteArray)} (h : RdM w a m) (hb : Below w.heap.size w w') : RdM w' a m := by
  intro i row hi
  obtain ⟨b, off, p, c, ha, hlt, hc, hr⟩ := h i row hi
  exact ⟨b, off, p, c, ha, Nat.lt_of_lt_of_le hlt hb.size, (hb.cell (p := ⟨b, _, none⟩) hlt).trans hc, hr.below hb⟩

/-- The first rows of n are as long as all are, and not too many. -/
def sqB (n : Nat) (m : List (List ByteArray)) : Bool := decide (n ≤ 6) && m.all fun row => decide (row.length = n)
def numsB (m : List (List ByteArray)) : Bool := m.all allB
def detErr (m : List (List ByteArray)) : Int := if numsB m then (if sqB m.length m then outE (detZ (m.map vals)) else 1) else 6
def detStr (m : List (List ByteArray)) : List UInt8 := if numsB m then (if sqB m.length m then outS (detZ (m.map vals)) else []) else []

theorem take_all {α : Type} {l : List α} {p : α → Bool} {j : Nat} (hj : j < l.length) : (l.take (j + 1)).all p = ((l.take j).all p && p l[j]) := by
  rw [List.take_succ_eq_append_getElem hj, List.all_append]; simp

theorem sq_take {n : Nat} {m : List (List ByteArray)} {j : Nat} (hj : j < m.length) : sqB n (m.take (j + 1)) = (sqB n (m.take j) && decide (m[j].length = n)) := by
  unfold sqB; rw [take_all hj, Bool.and_assoc]

theorem Tryd.info93 : (Tryd.prog.info? 57).map (fun i => (i.zero, i.size, i.bytes)) = some (some (.slice none 0 0), 1, 24) := by kernel_rfl

theorem mkRows (n : Nat) (hn : n ≤ 1000000) (w : World) : (Instr.makeSlice 78 (.int .i64 (n : Int)) (.int .i64 (n : Int))).run Tryd.prog w = .ok (.slice (some ⟨w.heap.size, 0, none⟩) n n) (w.alloc (.cells (Go.madeCells #[.slice none 0 0] n) 57)) :=
  run_make_row' _ _ (.slice none 0 0) 24 Tryd.underlying78 Tryd.info93 rfl .i64 .i64 n (by omega) (by omega) w

/-- Block B holds slices alone. -/
def Slices (w : World) (B : Nat) : Prop := ∃ cs, w.heap[B]? = some (.cells cs 57 (0, 0)) ∧ ∀ (i : Nat) (v : Value), cs[i]? = some v → ∃ p k c, v = Value.slice p k c

theorem Nums.setSlice {w : World} {p : Option Addr} {zs : List Int} {L : Nat} (h : Nums w p zs L) {B i : Nat} (hB : Slices w B) {u : Value} (hu : w.cell? ⟨B, i, none⟩ = some u) (v : Value) : Nums (w.setCell ⟨B, i, none⟩ v) p zs L := by
  obtain ⟨cs, hh, hall⟩ := hB
  have hcell : ∀ j, w.cell? ⟨B, j, none⟩ = cs[j]? := fun j => by simp [World.cell?, hh]
  have hu' := hall i u (by rw [← hcell]; exact hu)
  intro j z hz
  obtain ⟨b, off, neg, q, n, c, xs, ha, hlt, h0, h1, hn⟩ := h j z hz
  have hne : b ≠ B := by
    rintro rfl
    rw [hcell] at h0
    obtain ⟨_, _, _, e⟩ := hall _ _ h0
    cases e
  refine ⟨b, off, neg, q, n, c, xs, ha, by simpa using hlt, ?_, ?_, hn.set hu (fun x e => by obtain ⟨_, _, _, e'⟩ := hu'; rw [e'] at e; cases e) v⟩
  · rw [World.cell?_setCell_other _ _ _ _ (fun e => hne (by cases e; rfl))]; exact h0
  · rw [World.cell?_setCell_other _ _ _ _ (fun e => hne (by cases e; rfl))]; exact h1

/-- What is done of the rows. -/
def RPart (w : World) (B n : Nat) (M : List (List Int)) : Prop :=
  ∃ cs : Array Value, w.heap[B]? = some (.cells cs 57 (0, 0)) ∧ cs.size = n ∧ (∀ (i : Nat) (v : Value), cs[i]? = some v → ∃ p k c, v = Value.slice p k c) ∧
    ∀ (i : Nat) (row : List Int), M[i]? = some row → ∃ (p : Option Addr) (c : Nat), cs[i]? = some (Value.slice p row.length c) ∧ Nums w p row 223

theorem RPart.rows {w : World} {B n : Nat} {M : List (List Int)} (h : RPart w B n M) : RowsIs w (some ⟨B, 0, none⟩) M 223 := by
  obtain ⟨cs, hh, hn, _, hz⟩ := h
  intro i row hi
  obtain ⟨p, c, h0, hx⟩ := hz i row hi
  exact ⟨B, 0, p, c, rfl, (Array.getElem?_eq_some_iff.1 hh).1, by simp [World.cell?, hh, h0], hx⟩

theorem RPart.below {w w' : World} {B n : Nat} {M : List (List Int)} (h : RPart w B n M) (hb : Below w.heap.size w w') : RPart w' B n M := by
  obtain ⟨cs, hh, hn, hv, hz⟩ := h
  refine ⟨cs, (hb.block B (Array.getElem?_eq_some_iff.1 hh).1).trans hh, hn, hv, fun i row hi => ?_⟩
  obtain ⟨p, c, h0, hx⟩ := hz i row hi
  exact ⟨p, c, h0, hx.below hb⟩

theorem RPart.put {w : World} {B n : Nat} {M : List (List Int)} (h : RPart w B n M) {p : Option Addr} {k c : Nat} {row : List Int} (hk : row.length = k) (hx : Nums w p row 223) (hlt : M.length < n) :
    RPart (w.setCell ⟨B, M.length, none⟩ (.slice p k c)) B n (M ++ [row]) ∧ (∃ u, w.cell? ⟨B, M.length, none⟩ = some u) ∧ w.frozen? ⟨B, M.length, none⟩ = false := by
  subst hk
  obtain ⟨cs, hh, hn, hv, hz⟩ := h
  have hc : ∀ i, w.cell? ⟨B, i, none⟩ = cs[i]? := fun i => by simp [World.cell?, hh]
  have l0 : M.length < cs.size := by omega
  have u0 : w.cell? ⟨B, M.length, none⟩ = some cs[M.length] := by rw [hc, Array.getElem?_eq_getElem l0]
  refine ⟨⟨cs.setIfInBounds M.length (.slice p row.length c), ?_, by simp [hn], ?_, ?_⟩, ⟨_, u0⟩, by simp [World.frozen?, hh]⟩
  · rw [Lib.heap_setCell_same hh]
  · intro i v hi
    rw [Array.getElem?_setIfInBounds] at hi
    split at hi
    · first
        | (cases hi; exact ⟨_, _, _, rfl⟩)
        | (split at hi <;> cases hi; exact ⟨_, _, _, rfl⟩)
    · exact hv _ _ hi
  · intro i row' hi
    rcases Nat.lt_or_ge i M.length with hlt' | hge
    · rw [List.getElem?_append_left hlt'] at hi
      obtain ⟨p', c', h0, hx'⟩ := hz i row' hi
      exact ⟨p', c', by rw [Array.getElem?_setIfInBounds_ne (by omega)]; exact h0, hx'.setSlice ⟨cs, hh, hv⟩ u0 _⟩
    · obtain rfl : i = M.length := by
        have := (List.getElem?_eq_some_iff.1 hi).1
        simp at this; omega
      simp at hi
      subst hi
      exact ⟨p, c, by rw [Array.getElem?_setIfInBounds_self_of_lt l0], hx.setSlice ⟨cs, hh, hv⟩ u0 _⟩

def DetOut (w : World) (m : List (List ByteArray)) (e : Ending) (w' : World) : Prop := e = .returned (.tuple #[.string ⟨(detStr m).toArray⟩, .int .i64 (detErr m)]) ∧ Below w.heap.size w w'

set_option maxRecDepth 100000 in
set_option maxHeartbeats 2000000 in
theorem det_any (a : Option Addr) (n c : Nat) (m : List (List ByteArray)) (w : World) (hl : m.length = n) (hn : n ≤ 1000000000000) (hr : RdM w a m) (hs : ∀ row ∈ m, row.length ≤ 1000000000000 ∧ ∀ s ∈ row, s.size ≤ maxLen) (htab : Tab w) :
    Calls Tryd.prog 30 #[.slice a n c] w (DetOut w m) := by
  have HL := Lib.hid hl
  have HR := Lib.hid hr
  have HS := Lib.hid hs
  have HT := Lib.hid htab
  obtain ⟨s6, hs6⟩ : ∃ s6, decide ((n : Int) ≤ 6) = s6 := ⟨_, rfl⟩
  have h06 : Hid (sqB n (m.take 0) = s6) := by
    show sqB n (m.take 0) = s6
    rw [← hs6]; unfold sqB
    simp; omega
  clear hl hr hs htab
  go_enter Tryd.func30, Tryd.ntmps30
  go_wp2_with fail
  clear hs6
  go_loopg [4, 15] n (fun gk v4 i wr => ∃ (j : Nat) (sq : Bool), j ≤ n ∧ gk = n - j ∧ i = .int .i64 j ∧ v4 = .bool sq ∧ Hid (sqB n (m.take j) = sq) ∧ Hid (numsB (m.take j) = true) ∧ Below w.heap.size w wr)
  case atStart => exact ⟨0, s6, Nat.zero_le _, rfl, rfl, rfl, h06, rfl, Below.refl _ _⟩
  case round =>
    obtain ⟨j, sq, hj, hgk, rfl, rfl, HSQ, HNU, hb⟩ := hrel
    have HGK := Lib.hid hgk
    clear hgk
    by_cases hlt : j < n
    · have hjl : j < m.length := by rw [HL.out]; exact hlt
      obtain ⟨b, off, p, c', rfl, hb1, hc, hrs⟩ := (HR.out.below hb) j _ (List.getElem?_eq_getElem hjl)
      have hrow := HS.out _ (List.getElem_mem hjl)
      have hsq := sq_take (n := n) hjl
      have hnu : numsB (m.take (j + 1)) = (numsB (m.take j) && allB m[j]) := take_all hjl
      have hnf : allB m[j] = false → numsB m = false := fun h => by
        unfold numsB; rw [List.all_eq_false]; exact ⟨m[j], List.getElem_mem _, by simp [h]⟩
      generalize m[j] = row at *
      have H1 := Lib.hid hrow.1
      have H2 := Lib.hid hrow.2
      have H3 := Lib.hid hsq
      have H4 := Lib.hid hnu
      have H5 := Lib.hid hrs
      have H6 := Lib.hid hnf
      clear hrow hsq hnu hrs hnf
      cases hab : allB row
      · have HA := Lib.hid hab
        clear hab
        go_wp2_with (go_at_call 25; refine (areAll_any _ _ _ row _ rfl H1.out H5.out H2.out).mono ?_; rintro e w1 ⟨rfl, hb1⟩; rw [HA.out])
        go_ret2
        have h6 := H6.out HA.out
        refine ⟨?_, hb.trans (hb1.mono hb.size)⟩
        unfold detStr detErr
        rw [h6]; rfl
      · have HA := Lib.hid hab
        clear hab
        cases sq
        · go_wp2_with (go_at_call 25; refine (areAll_any _ _ _ row _ rfl H1.out H5.out H2.out).mono ?_; rintro e w1 ⟨rfl, hb1⟩; rw [HA.out])
          go_roundg (n - (j + 1))
          case measure => rw [HGK.out]; omega
          case rel => exact ⟨j + 1, false, by omega, rfl, by go_num, rfl, (by show sqB n (m.take (j + 1)) = false; rw [H3.out, HSQ.out]; rfl), (by show numsB (m.take (j + 1)) = true; rw [H4.out, HNU.out, HA.out]; rfl), hb.trans (hb1.mono hb.size)⟩
        · by_cases hrn : row.length = n
          · have hz : ((row.length : Int) == (n : Int)) = true := by simp; omega
            have HRN := Lib.hid hrn
            clear hrn
            go_wp2_with (go_at_call 25; refine (areAll_any _ _ _ row _ rfl H1.out H5.out H2.out).mono ?_; rintro e w1 ⟨rfl, hb1⟩; rw [HA.out])
            go_roundg (n - (j + 1))
            case measure => rw [HGK.out]; omega
            case rel => exact ⟨j + 1, true, by omega, rfl, by go_num, rfl, (by show sqB n (m.take (j + 1)) = true; rw [H3.out, HSQ.out, HRN.out]; simp), (by show numsB (m.take (j + 1)) = true; rw [H4.out, HNU.out, HA.out]; rfl), hb.trans (hb1.mono hb.size)⟩
          · have hz : ((row.length : Int) == (n : Int)) = false := by simp; omega
            have HRN := Lib.hid hrn
            clear hrn
            go_wp2_with (go_at_call 25; refine (areAll_any _ _ _ row _ rfl H1.out H5.out H2.out).mono ?_; rintro e w1 ⟨rfl, hb1⟩; rw [HA.out])
            go_roundg (n - (j + 1))
            case measure => rw [HGK.out]; omega
            case rel => exact ⟨j + 1, false, by omega, rfl, by go_num, rfl, (by show sqB n (m.take (j + 1)) = false; rw [H3.out, HSQ.out]; simp [HRN.out]), (by show numsB (m.take (j + 1)) = true; rw [H4.out, HNU.out, HA.out]; rfl), hb.trans (hb1.mono hb.size)⟩
    · obtain rfl : j = n := by omega
      have hmt : m.take j = m := List.take_of_length_le (by rw [HL.out]; exact Nat.le_refl _)
      rw [hmt] at HSQ HNU
      clear hmt
      cases sq
      · go_wp2_with fail
        go_ret2
        refine ⟨?_, hb⟩
        unfold detStr detErr
        rw [HL.out, HNU.out, HSQ.out]; rfl
      · have hq := HSQ.out
        unfold sqB at hq
        simp only [Bool.and_eq_true, decide_eq_true_eq, List.all_eq_true] at hq
        obtain ⟨hj6, hrl⟩ := hq
        have HRL := Lib.hid hrl
        have hmk := mkRows j (by omega) wr
        have hP : Hid (RPart (wr.alloc (.cells (Go.madeCells #[.slice none 0 0] j) 57)) wr.heap.size j ((m.take 0).map vals)) := by
          refine ⟨_, World.alloc_heap_new wr _, Go.size_madeCells _ _, fun i v h => ?_, fun i row h => by simp at h⟩
          have hi := (Array.getElem?_eq_some_iff.1 h).1
          rw [Go.size_madeCells] at hi
          simp [Go.madeCells, hi, Nat.mod_one] at h
          first | exact ⟨_, _, _, h.symm⟩ | exact ⟨_, _, _, h⟩
        have hb2 : Below w.heap.size w (wr.alloc (.cells (Go.madeCells #[.slice none 0 0] j) 57)) := hb.alloc hb.size _
        have y0 : wr.heap.size < (wr.alloc (.cells (Go.madeCells #[.slice none 0 0] j) 57)).heap.size := by simp
        have HSZ := hb.size
        clear hrl
        go_wp2_with fail
        clear hmk
        go_loopg [38] j (fun gk i wx => ∃ (q : Nat), q ≤ j ∧ gk = j - q ∧ i = .int .i64 q ∧ Hid (RPart wx wr.heap.size j ((m.take q).map vals)) ∧ wr.heap.size < wx.heap.size ∧ Below w.heap.size w wx)
        case atStart => exact ⟨0, Nat.zero_le _, rfl, rfl, hP, y0, hb2⟩
        case round =>
          clear hP y0 hb2
          obtain ⟨q, hq, hgk, rfl, hp, hlt0, hb3⟩ := hrel
          have HGK2 := Lib.hid hgk
          clear hgk
          by_cases hlt : q < j
          · have hjl : q < m.length := by rw [HL.out]; exact hlt
            have hlen : ((m.take q).map vals).length = q := by simp; omega
            obtain ⟨b, off, p, c', rfl, hb1, hc, hrs⟩ := (HR.out.below hb3) q _ (List.getElem?_eq_getElem hjl)
            have hrow := HS.out _ (List.getElem_mem hjl)
            have hrl := HRL.out _ (List.getElem_mem hjl)
            have hab : allB m[q] = true := (List.all_eq_true.1 HNU.out) _ (List.getElem_mem hjl)
            have hvs : (m.take (q + 1)).map vals = (m.take q).map vals ++ [vals m[q]] := by rw [List.take_succ_eq_append_getElem hjl, List.map_append]; rfl
            generalize m[q] = row at *
            have H2 := Lib.hid hrow.2
            have H5 := Lib.hid hrs
            have HA := Lib.hid hab
            have HV := Lib.hid hvs
            have HRW := Lib.hid hrl
            rw [hrl] at hc
            clear hrow hrs hab hvs hrl
            go_wp2_with (go_at_call 26; refine (readAll_any _ _ _ row _ HRW.out (by omega) H5.out H2.out HA.out).mono ?_; rintro e w1 ⟨B, rfl, hnum, hb4⟩; obtain ⟨q1, ⟨u, q2⟩, q3⟩ := (hp.out.below hb4).put (k := j) (c := j) (by unfold vals; rw [List.length_map]; exact HRW.out) hnum (by rw [hlen]; exact hlt); rw [hlen] at q1 q2 q3)
            go_roundg (j - (q + 1))
            case measure => rw [HGK2.out]; omega
            case rel => exact ⟨q + 1, by omega, rfl, by go_num, (by rw [HV.out]; exact q1), by simp; exact Nat.lt_of_lt_of_le hlt0 hb4.size, (hb3.trans (hb4.mono hb3.size)).setCell HSZ _⟩
          · obtain rfl : q = j := by omega
            have hmt : m.take q = m := List.take_of_length_le (by rw [HL.out]; exact Nat.le_refl _)
            have hrows := hp.out.rows
            rw [hmt] at hrows
            have hML : (m.map vals).length = q := by rw [List.length_map]; exact HL.out
            have hMS : ∀ row ∈ m.map vals, row.length = q := fun row hrow => by
              obtain ⟨r, h1, rfl⟩ := List.mem_map.1 hrow
              unfold vals; rw [List.length_map]; exact HRL.out r h1
            have HMT := Lib.hid hmt
            have HML := Lib.hid hML
            have HMS := Lib.hid hMS
            have HRO := Lib.hid hrows
            clear hmt hML hMS hrows hp
            go_wp2_with (first
              | (go_at_call 45; refine (determinant_in _ _ _ _ _ hj6 HML.out HMS.out HRO.out).mono ?_; rintro e w5 ⟨neg, p, k, d, xs, rfl, hx, hb5⟩; have hb6 := hb3.trans (hb5.mono hb3.size))
              | (go_at_call 20; refine (written_any _ _ _ _ _ _ _ _ hx (by unfold detL; omega) (HT.out.below hb6)).mono ?_; rintro e w6 ⟨rfl, hb7⟩))
            go_ret2
            refine ⟨?_, hb6.trans (hb7.mono hb6.size)⟩
            unfold detStr detErr
            rw [HL.out, HNU.out, HSQ.out]; rfl

end Go.Proofs.YtimcbmgmngkagaaDoor

namespace Go.Proofs.YtimcbmgmngkagaaDoor
open Go.RowKit

def b20 : ByteArray := ⟨#[57, 57, 57, 57, 57, 57, 57, 57, 57, 57, 57, 57, 57, 57, 57, 57, 57, 57, 57, 57]⟩
def b40 : ByteArray := ⟨#[57, 57, 57, 57, 57, 57, 57, 57, 57, 57, 57, 57, 57, 57, 57, 57, 57, 57, 57, 56, 48, 48, 48, 48, 48, 48, 48, 48, 48, 48, 48, 48, 48, 48, 48, 48, 48, 48, 48, 49]⟩

theorem aw_mul (w : World) (htab : Tab w) : Calls Tryd.prog 7 #[.string b20, .string b20] w fun e w' => e = .returned (.tuple #[.string b40, .int .i64 0]) ∧ Below w.heap.size w w' := by
  refine (mul_any b20 b20 w (by decide) (by decide) htab).mono ?_
  rintro e w' ⟨rfl, hb⟩
  have h1 : apiS (numB b20.data.toList && numB b20.data.toList) (strV b20.data.toList * strV b20.data.toList) = b40.data.toList := by decide +kernel
  have h2 : apiE (numB b20.data.toList && numB b20.data.toList) (strV b20.data.toList * strV b20.data.toList) = 0 := by decide +kernel
  rw [h1, h2]
  exact ⟨rfl, hb⟩

theorem aw_div1 (w : World) (htab : Tab w) : Calls Tryd.prog 9 #[.string ⟨#[45, 55]⟩, .string ⟨#[50]⟩] w fun e w' => e = .returned (.tuple #[.string ⟨#[45, 52]⟩, .string ⟨#[49]⟩, .int .i64 0]) ∧ Below w.heap.size w w' := by
  refine (div_any ⟨#[45, 55]⟩ ⟨#[50]⟩ w (by decide) (by decide) htab (fun _ _ _ => canDiv_one (by decide +kernel) (by decide +kernel))).mono ?_
  rintro e w' ⟨rfl, hb⟩
  have h1 : divQ (numB (⟨#[45, 55]⟩ : ByteArray).data.toList && numB (⟨#[50]⟩ : ByteArray).data.toList) (strV (⟨#[45, 55]⟩ : ByteArray).data.toList) (strV (⟨#[50]⟩ : ByteArray).data.toList) = [45, 52] := by decide +kernel
  have h2 : divR (numB (⟨#[45, 55]⟩ : ByteArray).data.toList && numB (⟨#[50]⟩ : ByteArray).data.toList) (strV (⟨#[45, 55]⟩ : ByteArray).data.toList) (strV (⟨#[50]⟩ : ByteArray).data.toList) = [49] := by decide +kernel
  have h3 : divE (numB (⟨#[45, 55]⟩ : ByteArray).data.toList && numB (⟨#[50]⟩ : ByteArray).data.toList) (strV (⟨#[50]⟩ : ByteArray).data.toList) = 0 := by decide +kernel
  rw [h1, h2, h3]
  exact ⟨rfl, hb⟩

theorem aw_div2 (w : World) (htab : Tab w) : Calls Tryd.prog 9 #[.string ⟨#[45, 55]⟩, .string ⟨#[45, 50]⟩] w fun e w' => e = .returned (.tuple #[.string ⟨#[52]⟩, .string ⟨#[49]⟩, .int .i64 0]) ∧ Below w.heap.size w w' := by
  refine (div_any ⟨#[45, 55]⟩ ⟨#[45, 50]⟩ w (by decide) (by decide) htab (fun _ _ _ => canDiv_one (by decide +kernel) (by decide +kernel))).mono ?_
  rintro e w' ⟨rfl, hb⟩
  have h1 : divQ (numB (⟨#[45, 55]⟩ : ByteArray).data.toList && numB (⟨#[45, 50]⟩ : ByteArray).data.toList) (strV (⟨#[45, 55]⟩ : ByteArray).data.toList) (strV (⟨#[45, 50]⟩ : ByteArray).data.toList) = [52] := by decide +kernel
  have h2 : divR (numB (⟨#[45, 55]⟩ : ByteArray).data.toList && numB (⟨#[45, 50]⟩ : ByteArray).data.toList) (strV (⟨#[45, 55]⟩ : ByteArray).data.toList) (strV (⟨#[45, 50]⟩ : ByteArray).data.toList) = [49] := by decide +kernel
  have h3 : divE (numB (⟨#[45, 55]⟩ : ByteArray).data.toList && numB (⟨#[45, 50]⟩ : ByteArray).data.toList) (strV (⟨#[45, 50]⟩ : ByteArray).data.toList) = 0 := by decide +kernel
  rw [h1, h2, h3]
  exact ⟨rfl, hb⟩

def aw4 : List (List ByteArray) := [[⟨#[49]⟩, ⟨#[50]⟩], [⟨#[51]⟩, ⟨#[52]⟩]]

def awW (w : World) : World := ((w.alloc (.cells #[.string ⟨#[49]⟩, .string ⟨#[50]⟩] 9)).alloc (.cells #[.string ⟨#[51]⟩, .string ⟨#[52]⟩] 9)).alloc (.cells #[.slice (some ⟨w.heap.size, 0, none⟩) 2 2, .slice (some ⟨w.heap.size + 1, 0, none⟩) 2 2] 31)

theorem awW_below (w : World) : Below w.heap.size w (awW w) := (((Below.refl _ w).alloc (Nat.le_refl _) _).alloc (by simp) _).alloc (by rw [World.size_alloc, World.size_alloc]; omega) _

theorem aw_rows (w : World) : RdM (awW w) (some ⟨w.heap.size + 1 + 1, 0, none⟩) aw4 := by
  have keep : ∀ {W : World} {o' : Obj} (o : Obj) (i : Nat), W.heap[i]? = some o' → (W.alloc o).heap[i]? = some o' := fun {W} {_} o i h => ((World.grownBy_alloc W o none).block i (Array.getElem?_eq_some_iff.1 h).1 (by simp)).trans h
  have h0 : (awW w).heap[w.heap.size]? = some (.cells #[.string ⟨#[49]⟩, .string ⟨#[50]⟩] 9 (0, 0)) := keep _ _ (keep _ _ (World.alloc_heap_new w _))
  have h1 : (awW w).heap[w.heap.size + 1]? = some (.cells #[.string ⟨#[51]⟩, .string ⟨#[52]⟩] 9 (0, 0)) := by
    refine keep _ _ ?_
    have := World.alloc_heap_new (w.alloc (.cells #[.string ⟨#[49]⟩, .string ⟨#[50]⟩] 9)) (.cells #[.string ⟨#[51]⟩, .string ⟨#[52]⟩] 9)
    rwa [World.size_alloc] at this
  have h2 : (awW w).heap[w.heap.size + 1 + 1]? = some (.cells #[.slice (some ⟨w.heap.size, 0, none⟩) 2 2, .slice (some ⟨w.heap.size + 1, 0, none⟩) 2 2] 31 (0, 0)) := by
    have := World.alloc_heap_new ((w.alloc (.cells #[.string ⟨#[49]⟩, .string ⟨#[50]⟩] 9)).alloc (.cells #[.string ⟨#[51]⟩, .string ⟨#[52]⟩] 9)) (.cells #[.slice (some ⟨w.heap.size, 0, none⟩) 2 2, .slice (some ⟨w.heap.size + 1, 0, none⟩) 2 2] 31)
    rwa [World.size_alloc, World.size_alloc] at this
  have lt : ∀ {b : Nat} {o : Obj}, (awW w).heap[b]? = some o → b < (awW w).heap.size := fun h => (Array.getElem?_eq_some_iff.1 h).1
  have r0 : RdS (awW w) (some ⟨w.heap.size, 0, none⟩) [⟨#[49]⟩, ⟨#[50]⟩] := by
    intro i s hs
    refine ⟨w.heap.size, 0, rfl, lt h0, ?_⟩
    match i, hs with
    | 0, hs => cases hs; simp [World.cell?, h0]
    | 1, hs => cases hs; simp [World.cell?, h0]
    | i + 2, hs => simp at hs
  have r1 : RdS (awW w) (some ⟨w.heap.size + 1, 0, none⟩) [⟨#[51]⟩, ⟨#[52]⟩] := by
    intro i s hs
    refine ⟨w.heap.size + 1, 0, rfl, lt h1, ?_⟩
    match i, hs with
    | 0, hs => cases hs; simp [World.cell?, h1]
    | 1, hs => cases hs; simp [World.cell?, h1]
    | i + 2, hs => simp at hs
  intro i row hi
  match i, hi with
  | 0, hi => cases hi; exact ⟨w.heap.size + 1 + 1, 0, _, 2, rfl, lt h2, by simp [World.cell?, h2], r0⟩
  | 1, hi => cases hi; exact ⟨w.heap.size + 1 + 1, 0, _, 2, rfl, lt h2, by simp [World.cell?, h2], r1⟩
  | i + 2, hi => simp [aw4] at hi

theorem aw_det (w : World) (htab : Tab w) : Calls Tryd.prog 30 #[.slice (some ⟨w.heap.size + 1 + 1, 0, none⟩) 2 2] (awW w) fun e w' => e = .returned (.tuple #[.string ⟨#[45, 50]⟩, .int .i64 0]) ∧ Below w.heap.size w w' := by
  have hb := awW_below w
  refine (det_any (some ⟨w.heap.size + 1 + 1, 0, none⟩) 2 2 aw4 (awW w) rfl (by decide) (aw_rows w) (by unfold aw4 maxLen; decide) (htab.below hb)).mono ?_
  rintro e w' ⟨rfl, hb2⟩
  have h1 : detStr aw4 = [45, 50] := by decide +kernel
  have h2 : detErr aw4 = 0 := by decide +kernel
  rw [h1, h2]
  exact ⟨rfl, hb.trans (hb2.mono hb.size)⟩

def bMin : ByteArray := ⟨#[45, 57, 50, 50, 51, 51, 55, 50, 48, 51, 54, 56, 53, 52, 55, 55, 53, 56, 48, 56]⟩
theorem aw_toInt (w : World) (herr : ErrLaid w) : Calls Tryd.prog 31 #[.string bMin] w fun e w' => e = .returned (.tuple #[.int .i64 (-9223372036854775808), .bool true]) ∧ Below w.heap.size w w' := by
  refine (toInt_any bMin w (by decide) herr).mono ?_
  rintro e w' ⟨rfl, hb⟩
  have h1 : toInt bMin.data.toList = -9223372036854775808 := by decide +kernel
  have h2 : toOk bMin.data.toList = true := by decide +kernel
  rw [h1, h2]
  exact ⟨rfl, hb⟩

theorem aw_is (s : ByteArray) (b : Bool) (h : numB s.data.toList = b) (hs : s.size ≤ maxLen) (w : World) : Calls Tryd.prog 14 #[.string s] w fun e w' => e = .returned (.bool b) ∧ Below w.heap.size w w' := by
  subst h; exact is_any s w hs

set_option maxRecDepth 100000 in
set_option maxHeartbeats 2000000 in
theorem awake_any (w : World) (htab : Tab w) (herr : ErrLaid w) : Calls Tryd.prog 15 #[] w fun e w' => e = .returned (.bool true) ∧ Below w.heap.size w w' := by
  go_enter Tryd.func15, Tryd.ntmps15
  go_wp2_with fail
  refine (aw_mul _ htab).mono ?_
  rintro e w1 ⟨rfl, hb1⟩
  unfold b40
  go_wp2_with fail
  refine (aw_div1 _ (htab.below hb1)).mono ?_
  rintro e w2 ⟨rfl, hb2'⟩
  have hb2 := hb1.trans (hb2'.mono hb1.size)
  go_wp2_with fail
  refine (aw_div2 _ (htab.below hb2)).mono ?_
  rintro e w3 ⟨rfl, hb3'⟩
  have hb3 := hb2.trans (hb3'.mono hb2.size)
  go_wp2_with fail
  refine (aw_det w3 (htab.below hb3)).mono ?_
  rintro e w4 ⟨rfl, hb4'⟩
  have hb4 := hb3.trans (hb4'.mono hb3.size)
  go_wp2_with fail
  refine (aw_toInt _ (herr.below hb4)).mono ?_
  rintro e w5 ⟨rfl, hb5'⟩
  have hb5 := hb4.trans (hb5'.mono hb4.size)
  go_wp2_with fail
  refine (aw_is ⟨#[45, 48]⟩ false (by decide +kernel) (by decide) _).mono ?_
  rintro e w6 ⟨rfl, hb6'⟩
  have hb6 := hb5.trans (hb6'.mono hb5.size)
  go_wp2_with fail
  refine (aw_is ⟨#[48, 49]⟩ false (by decide +kernel) (by decide) _).mono ?_
  rintro e w7 ⟨rfl, hb7'⟩
  have hb7 := hb6.trans (hb7'.mono hb6.size)
  go_wp2_with fail
  refine (aw_is ⟨#[43, 49]⟩ false (by decide +kernel) (by decide) _).mono ?_
  rintro e w8 ⟨rfl, hb8'⟩
  have hb8 := hb7.trans (hb8'.mono hb7.size)
  go_wp2_with fail
  refine (aw_is ⟨#[45, 49, 48]⟩ true (by decide +kernel) (by decide) _).mono ?_
  rintro e w9 ⟨rfl, hb9'⟩
  have hb9 := hb8.trans (hb9'.mono hb8.size)
  go_wp2_with fail
  go_ret
  exact ⟨rfl, hb9⟩


end Go.Proofs.YtimcbmgmngkagaaDoor

namespace Go.Proofs.YtimcbmgmngkagaaDoor
open Go.RowKit

theorem clean_itoa {most : Nat} {l : List UInt8} (h : CleanIs most l) : ∃ z, l = Lib.itoa z ∧ z.natAbs < 10 ^ (most + 1) ∧ Fits z := by
  refine ⟨strV l, (itoa_strV h.1).symm, ?_, num_fits h.1⟩
  exact strV_bound h.1 h.2.2

theorem sum2Z {p q z : Int} (w : World) (hp : Fits p) (hq : Fits q) (h : p + q = z) (hz : Fits z) (htab : Tab w) (t : TypeId) (k B : Nat) (hB : w.heap.size = B) :
    Calls Tryd.prog 10 #[.slice (some ⟨B, 0, none⟩) 2 k] (w.alloc (.cells #[.string ⟨(Lib.itoa p).toArray⟩, .string ⟨(Lib.itoa q).toArray⟩] t)) fun e w' => e = .returned (.tuple #[.string ⟨(Lib.itoa z).toArray⟩, .int .i64 0]) ∧ Below w.heap.size w w' := by
  subst hB
  have hb : Below w.heap.size w (w.alloc (.cells #[.string ⟨(Lib.itoa p).toArray⟩, .string ⟨(Lib.itoa q).toArray⟩] t)) := (Below.refl _ w).alloc (Nat.le_refl _) _
  have h1 := fits_len hp
  have h2 := fits_len hq
  refine (sumL (some ⟨w.heap.size, 0, none⟩) 2 k [Lib.itoa p, Lib.itoa q] _ rfl (by omega) (two_list w _ _ t) (by intro s hs; simp at hs; rcases hs with rfl | rfl <;> omega) (by unfold allN; simp [fits_num hp, fits_num hq]) (htab.below hb)).mono ?_
  rintro e w' ⟨he, hb2⟩
  have e1 : sumZ ([Lib.itoa p, Lib.itoa q].map strV) = z := by rw [← h]; simp [sumZ, fits_val]
  rw [e1, (out_plain hz).1, (out_plain hz).2] at he
  exact ⟨he, hb.trans (hb2.mono hb.size)⟩

theorem idx0 {l : List UInt8} {c : UInt8} {t : List UInt8} (h : l = c :: t) : ∀ hp : 0 < (⟨l.toArray⟩ : ByteArray).size, ((⟨l.toArray⟩ : ByteArray)[0]'hp).toNat = c.toNat := by
  subst h; intro _; rfl
theorem cut1 {l : List UInt8} {c : UInt8} {t : List UInt8} (h : l = c :: t) : (⟨l.toArray⟩ : ByteArray).extract 1 l.length = ⟨t.toArray⟩ := by
  subst h
  have := tail_bytes c t
  have e : (⟨(c :: t).toArray⟩ : ByteArray).size = (c :: t).length := by show (c :: t).toArray.size = _; simp
  rw [e] at this
  exact this

set_option maxRecDepth 100000 in
set_option maxHeartbeats 8000000 in
theorem wideRing_walk (x y z : List UInt8) (w : World) (hxl : x.length ≤ 9223372036854775807) (hyl : y.length ≤ 9223372036854775807) (hzl : z.length ≤ 9223372036854775807) (htab : Tab w) (herr : ErrLaid w) :
    Calls Tryd.prog 4 #[.string ⟨x.toArray⟩, .string ⟨y.toArray⟩, .string ⟨z.toArray⟩] w fun e w' => e = .returned (.bool true) ∧ Below w.heap.size w w' := by
  have HT := Lib.hid htab
  have HE := Lib.hid herr
  have HCX := Lib.hid (fun W => clean_any x 60 W hxl (by omega) (by omega))
  have HCY := Lib.hid (fun W => clean_any y 60 W hyl (by omega) (by omega))
  have HCZ := Lib.hid (fun W => clean_any z 60 W hzl (by omega) (by omega))
  clear htab herr
  go_enter Tryd.func4, Tryd.ntmps4
  go_wp2_with fail
  refine (HCX.out _).mono ?_
  rintro e w1 ⟨⟨la, ca, rfl⟩, hb1⟩
  obtain ⟨a, rfl, la, fa⟩ := clean_itoa ca
  clear ca
  go_wp2_with fail
  refine (HCY.out _).mono ?_
  rintro e w2 ⟨⟨lb, cb, rfl⟩, hb2'⟩
  obtain ⟨b, rfl, lb, fb⟩ := clean_itoa cb
  have hb2 := hb1.trans (hb2'.mono hb1.size)
  clear cb
  go_wp2_with fail
  refine (HCZ.out _).mono ?_
  rintro e w3 ⟨⟨lc, cc, rfl⟩, hb3'⟩
  obtain ⟨c, rfl, lc, fc⟩ := clean_itoa cc
  have hb3 := hb2.trans (hb3'.mono hb2.size)
  clear cc
  obtain ⟨S, hS⟩ : ∃ S, a + b = S := ⟨_, rfl⟩
  have fS : S.natAbs < 10 ^ 62 := by rw [← hS]; exact (ten_add la lb).1
  have FS : Fits S := fits_pow fS (by omega)
  go_wp2_with fail
  refine (addZ _ fa fb hS FS (HT.out.below hb3)).mono ?_
  rintro e w4 ⟨rfl, hb4'⟩
  have hb4 := hb3.trans (hb4'.mono hb3.size)
  go_wp2_with fail
  refine (addZ _ fb fa (z := S) (by omega) FS (HT.out.below hb4)).mono ?_
  rintro e w5 ⟨rfl, hb5'⟩
  have hb5 := hb4.trans (hb5'.mono hb4.size)
  obtain ⟨P, hP⟩ : ∃ P, S * c = P := ⟨_, rfl⟩
  obtain ⟨Q, hQ⟩ : ∃ Q, c * a = Q := ⟨_, rfl⟩
  obtain ⟨R, hR⟩ : ∃ R, b * c = R := ⟨_, rfl⟩
  have FP : Fits P := fits_pow (k := 62 + 62) (by rw [← hP]; exact ten_mul fS (Nat.lt_of_lt_of_le lc (by decide))) (by omega)
  have FQ : Fits Q := fits_pow (k := 61 + 61) (by rw [← hQ]; exact ten_mul lc la) (by omega)
  have FR : Fits R := fits_pow (k := 61 + 61) (by rw [← hR]; exact ten_mul lb lc) (by omega)
  have hRQ : R + Q = P := by rw [← hR, ← hQ, ← hP, ← hS]; grind
  go_wp2_with fail
  refine (mulZ _ FS fc hP FP (HT.out.below hb5)).mono ?_
  rintro e w6 ⟨rfl, hb6'⟩
  have hb6 := hb5.trans (hb6'.mono hb5.size)
  go_wp2_with fail
  refine (mulZ _ fc fa hQ FQ (HT.out.below hb6)).mono ?_
  rintro e w7 ⟨rfl, hb7'⟩
  have hb7 := hb6.trans (hb7'.mono hb6.size)
  go_wp2_with fail
  refine (mulZ _ fb fc hR FR (HT.out.below hb7)).mono ?_
  rintro e w8 ⟨rfl, hb8'⟩
  have hb8 := hb7.trans (hb8'.mono hb7.size)
  go_wp2_with fail
  refine (sum2Z _ FR FQ hRQ FP (HT.out.below hb8) _ _ _ rfl).mono ?_
  rintro e w9 ⟨rfl, hb9'⟩
  have hb9 := hb8.trans (hb9'.mono hb8.size)
  go_wp2_with fail
  refine (subZ _ FS fb (z := a) (by omega) fa (HT.out.below hb9)).mono ?_
  rintro e w10 ⟨rfl, hb10'⟩
  have hb10 := hb9.trans (hb10'.mono hb9.size)
  have HH := Lib.hid (And.intro hS (And.intro hP (And.intro hQ (And.intro hR hRQ))))
  clear hS hP hQ hR hRQ hb1 hb2 hb3 hb4 hb5 hb6 hb7 hb8 hb9 hb2' hb3' hb4' hb5' hb6' hb7' hb8' hb9' hb10'
  by_cases h0 : c = 0
  · subst h0
    have e0 : Lib.itoa 0 = [48] := by decide +kernel
    have hz := fun W ht => divZ0 (x := a) W fa ht
    rw [e0]
    rw [e0] at hz
    have HZ := Lib.hid hz
    clear hz e0
    go_wp2_with fail
    refine (HZ.out _ (HT.out.below hb10)).mono ?_
    rintro e w11 ⟨rfl, hb11'⟩
    have hb11 := hb10.trans (hb11'.mono hb10.size)
    go_wp2_with fail
    refine (awake_any _ (HT.out.below hb11) (HE.out.below hb11)).mono ?_
    rintro e w12 ⟨rfl, hb12'⟩
    go_wp2_with fail
    go_ret
    exact ⟨rfl, hb11.trans (hb12'.mono hb11.size)⟩
  · have hc48 : (Lib.itoa c == [48]) = false := by
      cases hh : (Lib.itoa c == [48])
      · rfl
      · exact absurd (itoa_inj ((by simpa using hh : Lib.itoa c = [48]).trans (show [48] = Lib.itoa 0 by decide +kernel))) h0
    obtain ⟨q, hq⟩ : ∃ q, a / c = q := ⟨_, rfl⟩
    obtain ⟨r, hr⟩ : ∃ r, a % c = r := ⟨_, rfl⟩
    have Fq : Fits q := by rw [← hq]; exact fits_div fa
    have Fr : Fits r := by rw [← hr]; exact fits_mod fc h0
    obtain ⟨B, hB⟩ : ∃ B, q * c = B := ⟨_, rfl⟩
    have hqr : B + r = a := by rw [← hB, ← hq, ← hr, Int.mul_comm]; exact Int.mul_ediv_add_emod a c
    have hr0 : 0 ≤ r := by rw [← hr]; exact Int.emod_nonneg _ h0
    have hrl : r < (c.natAbs : Int) := by rw [← hr]; exact Int.emod_lt a h0
    have FB : Fits B := fits_pow (k := 61 + 61) (by rw [← hB]; exact ten_mul (Nat.lt_of_le_of_lt (by rw [← hq]; exact Int.natAbs_ediv_le_natAbs _ _) la) lc) (by omega)
    go_wp2_with fail
    refine (divZ _ fa fc h0 hq hr (HT.out.below hb10)).mono ?_
    rintro e w11 ⟨rfl, hb11'⟩
    have hb11 := hb10.trans (hb11'.mono hb10.size)
    go_wp2_with fail
    refine (mulZ _ Fq fc hB FB (HT.out.below hb11)).mono ?_
    rintro e w12 ⟨rfl, hb12'⟩
    have hb12 := hb11.trans (hb12'.mono hb11.size)
    go_wp2_with fail
    refine (addZ _ FB Fr hqr fa (HT.out.below hb12)).mono ?_
    rintro e w13 ⟨rfl, hb13'⟩
    have hb13 := hb12.trans (hb13'.mono hb12.size)
    have HQR := Lib.hid (And.intro hq (And.intro hr (And.intro hB hqr)))
    clear hq hr hB hqr hb11 hb12 hb11' hb12' hb13'
    have hcl : 0 < (Lib.itoa c).length := by
      rcases Int.lt_or_le c 0 with h | h
      · rw [itoa_neg h]; simp
      · obtain ⟨d, t, e, _⟩ := itoa_pos h; rw [e]; simp
    obtain ⟨dr, tr, hre, dr0, dr1⟩ := itoa_pos hr0
    have hrl0 : 0 < (Lib.itoa r).length := by rw [hre]; simp
    have hri := idx0 hre
    have drn : ((dr.toNat : Int) != 45) = true := by simp; omega
    have HRE := Lib.hid hre
    clear hre
    obtain ⟨g, hg⟩ : ∃ g, ((Int.gcd a c : Nat) : Int) = g := ⟨_, rfl⟩
    have hgc := fun W ht => gcdZ (x := a) (y := c) W fa fc ht
    rw [hg] at hgc
    have HGC := Lib.hid hgc
    have Fg : Fits g := by rw [← hg]; exact fits_gcd fa fc
    have hg0 : g ≠ 0 := by rw [← hg]; intro e; exact h0 (Int.gcd_eq_zero_iff.1 (Int.ofNat.inj e)).2
    have hag : a % g = 0 := by rw [← hg]; exact Int.emod_eq_zero_of_dvd (Int.gcd_dvd_left ..)
    have hcg : c % g = 0 := by rw [← hg]; exact Int.emod_eq_zero_of_dvd (Int.gcd_dvd_right ..)
    have e0 : Lib.itoa 0 = [48] := by decide +kernel
    have hd1 := fun W ht => divZ (x := a) (y := g) W fa Fg hg0 rfl hag ht
    have hd2 := fun W ht => divZ (x := c) (y := g) W fc Fg hg0 rfl hcg ht
    rw [e0] at hd1 hd2
    have HD1 := Lib.hid hd1
    have HD2 := Lib.hid hd2
    have HG := Lib.hid hg
    have HAG := Lib.hid hag
    have HCG := Lib.hid hcg
    clear hg hgc hd1 hd2 e0 hag hcg
    rcases Int.lt_or_le c 0 with hneg | hpos
    · have hci := idx0 (itoa_neg hneg)
      have hcc := cut1 (itoa_neg hneg)
      have Fn : Fits (-c) := fits_of_le fc (by omega)
      have hlt : sgnCmp r (-c) = -1 := sgnCmp_lt (by omega)
      go_wp2_with fail
      refine (cmpZ _ Fr Fn).mono ?_
      rintro e w14 ⟨rfl, hb14'⟩
      have hb14 := hb13.trans (hb14'.mono hb13.size)
      rw [hlt]
      go_wp2_with fail
      refine (HGC.out _ (HT.out.below hb14)).mono ?_
      rintro e w15 ⟨rfl, hb15'⟩
      have hb15 := hb14.trans (hb15'.mono hb14.size)
      go_wp2_with fail
      refine (HD1.out _ (HT.out.below hb15)).mono ?_
      rintro e w16 ⟨rfl, hb16'⟩
      have hb16 := hb15.trans (hb16'.mono hb15.size)
      go_wp2_with fail
      refine (HD2.out _ (HT.out.below hb16)).mono ?_
      rintro e w17 ⟨rfl, hb17'⟩
      have hb17 := hb16.trans (hb17'.mono hb16.size)
      go_wp2_with fail
      refine (awake_any _ (HT.out.below hb17) (HE.out.below hb17)).mono ?_
      rintro e w18 ⟨rfl, hb18'⟩
      have hb18 := hb17.trans (hb18'.mono hb17.size)
      go_wp2_with fail
      go_ret
      exact ⟨rfl, hb18⟩
    · obtain ⟨dc, tc, hce, dc0, dc1⟩ := itoa_pos hpos
      have hci := idx0 hce
      have dcn : ((dc.toNat : Int) == 45) = false := by simp; omega
      have HCE := Lib.hid hce
      clear hce
      have hlt : sgnCmp r c = -1 := sgnCmp_lt (by omega)
      go_wp2_with fail
      refine (cmpZ _ Fr fc).mono ?_
      rintro e w14 ⟨rfl, hb14'⟩
      have hb14 := hb13.trans (hb14'.mono hb13.size)
      rw [hlt]
      go_wp2_with fail
      refine (HGC.out _ (HT.out.below hb14)).mono ?_
      rintro e w15 ⟨rfl, hb15'⟩
      have hb15 := hb14.trans (hb15'.mono hb14.size)
      go_wp2_with fail
      refine (HD1.out _ (HT.out.below hb15)).mono ?_
      rintro e w16 ⟨rfl, hb16'⟩
      have hb16 := hb15.trans (hb16'.mono hb15.size)
      go_wp2_with fail
      refine (HD2.out _ (HT.out.below hb16)).mono ?_
      rintro e w17 ⟨rfl, hb17'⟩
      have hb17 := hb16.trans (hb17'.mono hb16.size)
      go_wp2_with fail
      refine (awake_any _ (HT.out.below hb17) (HE.out.below hb17)).mono ?_
      rintro e w18 ⟨rfl, hb18'⟩
      have hb18 := hb17.trans (hb18'.mono hb17.size)
      go_wp2_with fail
      go_ret
      exact ⟨rfl, hb18⟩

end Go.Proofs.YtimcbmgmngkagaaDoor

namespace Go.Proofs.YtimcbmgmngkagaaDoor
open Go.ChangeShapes Go.WideShapes Go.RowKit

def laid5 : List (String × DataW Unit) := [("math/bits.deBruijn32tab", Rows.laid_math_bits_deBruijn32tab), ("math/bits.deBruijn64tab", Rows.laid_math_bits_deBruijn64tab), ("internal/strconv.uint64pow10", Rows.laid_internal_strconv_uint64pow10), ("strconv.ErrRange", Rows.laid_strconv_ErrRange), ("strconv.ErrSyntax", Rows.laid_strconv_ErrSyntax)]

theorem own : ownKnob Tryd.prog.godebug = none := by kernel_rfl
theorem gPow : Tryd.prog.globalNamed "internal/strconv.uint64pow10" = some 0 := by kernel_rfl
theorem tPow : (Tryd.prog.globals[(0 : Nat)]?).map (·.type) = some 124 := by kernel_rfl
theorem cPow : Tryd.prog.cellsOf 124 = 20 := by kernel_rfl
theorem cU64 : Tryd.prog.cellsOf 73 = 1 := by kernel_rfl
theorem gErr : Tryd.prog.globalNamed "strconv.ErrRange" = some 2 := by kernel_rfl
theorem tErr : (Tryd.prog.globals[(2 : Nat)]?).map (·.type) = some 81 := by kernel_rfl
theorem cErrS : Tryd.prog.cellsOf 137 = 1 := by kernel_rfl
theorem cStr : Tryd.prog.cellsOf 9 = 1 := by kernel_rfl
theorem rowErr (u : TypeId) (h : Tryd.prog.typeName? 3 u = some "*errors.errorString") : u = 135 :=
  typeName_ptr_named (nm := "errors.errorString") (by kernel_rfl) (by kernel_rfl) (by decide) u h
theorem powData : Rows.laid_internal_strconv_uint64pow10 (H := Unit) = Lib.tabData .u64 Lib.pow10Tab := by rfl

theorem door_met (os : Os) (args : Array Value) : laidMetH Tryd.prog laid5 ((World.doorLaid Tryd.prog 62 os).forCall (fun _ _ => 0) ⟨#[], args, []⟩).memory :=
  laidMetH_of_parts3 (fuel := 8) (laidMet_of_run' 8 (by kernel_rfl) (by kernel_rfl)) (by kernel_rfl) (by kernel_rfl)

theorem of_laid {W : World} (h : laidMetH Tryd.prog laid5 W) : Tab W ∧ ErrLaid W := by
  rw [MakeChecks.laidMetH_plain _ _ _ (by kernel_rfl)] at h
  have h2 := h.tail.tail
  rw [powData] at h2
  refine ⟨Lib.tabIs_of_head gPow tPow Tryd.underlying124 Tryd.underlying73 cU64 cPow h2, ?_⟩
  have h3 := h.tail.tail.tail
  obtain ⟨a0, s0, hv0, _⟩ := laid_sentinel h3 gErr tErr Tryd.underlying81 rowErr Tryd.underlying135 Tryd.underlying137 rfl rfl Tryd.underlying9 cErrS cStr
  exact ⟨_, by simpa using World.var?_cell gErr hv0 0, .inr ⟨_, _, rfl⟩⟩

end Go.Proofs.YtimcbmgmngkagaaDoor

namespace Go.Proofs.YtimcbmgmngkagaaDoor
open Go Go.ChangeShapes Go.WideShapes Go.ChangeAt Go.WideMaps Go.WideElems Go.RowKit Go.ChangeMaps

set_option maxRecDepth 100000 in
theorem wideRing_lifted (os : Os) (started : os.Started) (H : Type) (enc : TypeId × Value → H) :
    ReturnsInHanded {} Tryd.checked os 4 .any (fun w args => (Rows.wideRingSpec.pre enc Tryd.prog Tryd.f4 [] false w args ∧ laidMetH Tryd.prog laid5 w) ∧ sizedMet enc Tryd.prog Tryd.f4 (OpenSpec.ofChange Rows.wideRingSpec) false w args)
      (Rows.wideRingSpec.post enc Tryd.prog Tryd.f4 false true false false) := by
  refine returnsInHanded_of_change_and (C := Tryd.checked) (X := fun w _ => laidMetH Tryd.prog laid5 w) (fun _ _ _ hh h => h.of_heap hh) own started (by kernel_rfl) Tryd.func4
    (ChangeSpec.witness_shaped (enc := enc) (C := Tryd.checked) (os := os) (X := fun w _ => laidMetH Tryd.prog laid5 w) false (World.doorLaid Tryd.prog 62 os) #[.string ⟨#[]⟩, .string ⟨#[]⟩, .string ⟨#[]⟩] 8 rfl (World.shaped_of_RefB (by kernel_rfl) (by kernel_rfl)) (by kernel_rfl) (by kernel_rfl) (by kernel_rfl) (door_met os _)) ?_
  intro W base args ds gs before hval0 hW _ _ hL _
  have hval : ∀ (j : Nat) t v, Tryd.f4.params[j]? = some t → args[j]? = some v → Value.okWide Tryd.prog W .any base t v := hval0
  have hW' := hW
  obtain ⟨p, q, hA0, hV, rfl, hfz, hnd⟩ := hW
  have hA : DataW.TrodAll enc Tryd.prog W 0 (fun _ => true) true Tryd.f4.params.toList args.toList ds p := hA0
  rw [Tryd.params4] at hA hval
  obtain ⟨v0, v1, v2, d0, d1, d2, p0, p1, p2, rfl, rfl, rfl, h0, h1, h2⟩ := trodAll_three hA
  obtain ⟨rfl, rfl⟩ := trodVars_none hV
  obtain ⟨s0, rfl, rfl, rfl, hs0⟩ := open_string Tryd.underlying9 (hval 0 9 v0 rfl rfl) h0
  obtain ⟨s1, rfl, rfl, rfl, hs1⟩ := open_string Tryd.underlying9 (hval 1 9 v1 rfl rfl) h1
  obtain ⟨s2, rfl, rfl, rfl, hs2⟩ := open_string Tryd.underlying9 (hval 2 9 v2 rfl rfl) h2
  obtain ⟨htab, herr⟩ := of_laid hL
  simp only [List.append_nil] at hW'
  have walk := wideRing_walk s0.data.toList s1.data.toList s2.data.toList W (by simpa [maxLen] using hs0) (by simpa [maxLen] using hs1) (by simpa [maxLen] using hs2) htab herr
  rw [← bytes_list s0, ← bytes_list s1, ← bytes_list s2] at walk
  refine walk.mono fun e W' ⟨he, hb⟩ => ?_
  subst he
  refine ⟨_, rfl, _, _, _, [], [], [], hW', ?_, ?_, rfl, hb.frame _, fun h => by cases h⟩
  · exact trodAll_mk1 (shut_bool Tryd.underlying4 true)
  · exact trodAll_mk3 (shut_string Tryd.underlying9 hs0) (shut_string Tryd.underlying9 hs1) (shut_string Tryd.underlying9 hs2)

theorem wideRing_holds : Rows.WideRingSaid :=
  OpenClaim.holds_of_wide 4 Tryd.f4 rfl rfl rfl rfl rfl rfl rfl ⟨rfl, rfl, rfl, rfl, rfl⟩ rfl rfl rfl rfl rfl (by kernel_rfl) Tryd.func4 (by kernel_rfl)
    (of_decide_eq_true (by kernel_rfl)) (by unfold Func.isWrapper; first | (rw [if_pos (by decide +kernel)]; kernel_rfl) | (rw [if_neg (by decide +kernel)]; exact ⟨rfl, rfl⟩))
    (fun os started H enc _ => wideRing_lifted os started H enc)

theorem wideRing_card : Rows.WideRingCardSaid :=
  Claim7.holds_tied_plain_at .later [] [.data, .data, .data, .sentinel, .sentinel] true (true, Rows.wideRingCard.stood.harness.2) true
    wideRing_holds (fun _ h => by cases h) (by kernel_rfl) (fun _ h => by cases h) wideRing_row_tie rfl ⟨rfl, rfl⟩ (by kernel_rfl) rfl
    (fun f fn hf hfn => by
      obtain rfl : f = 4 := Option.some.inj ((show Tryd.prog.funcNamed "spokeshave/spokeshavelaw01.WideRing" = some 4 by kernel_rfl).symm.trans hf) |>.symm
      obtain rfl : fn = Tryd.f4 := (Option.some.inj (Tryd.func4.symm.trans hfn)).symm
      exact ⟨by kernel_rfl, fun j t ht => by
        rw [Tryd.params4] at ht
        have hm : t ∈ [9, 9, 9] := by simpa using Array.mem_of_getElem? ht
        have hall : ([9, 9, 9].all fun u => !Tryd.prog.wantsStandIn u) = true := by kernel_rfl
        exact (show Tryd.prog.wantsStandIn t = false by simpa using List.all_eq_true.1 hall t hm)⟩)
    (by kernel_rfl)
#print axioms wideRing_card
end Go.Proofs.YtimcbmgmngkagaaDoor
