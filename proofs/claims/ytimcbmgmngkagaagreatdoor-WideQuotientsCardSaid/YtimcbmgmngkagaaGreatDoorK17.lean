/-
  WideQuotients: for every string, string the law returns true, and all arguments read as they did. Conditions: the five listed variables of strconv and math/bits lie as the program's text lays them (the card ties them to it).
-/
import Derived.Laws.EntriesVeiled
import Derived.Deep.CutBlock
import Derived.Test.YtimcbmgmngkagaaGreatDoorRows
import Derived.Stop.LaidErr
import Derived.Lib.LaidTab
import Derived.LaidHandle
import Derived.LaidMore
import Derived.MakeChecks
import Derived.ProofKit
import Derived.OpenShut
import Derived.Stop.Joined
import Derived.Test.YtimcbmgmngkagaaGreatDoorTie
import Derived.Test.YtimcbmgmngkagaaGreatDoorCards
import Derived.SevenTiedAt
import Derived.Test.YtimcbmgmngkagaaGreatDoorK1
import Derived.Test.YtimcbmgmngkagaaGreatDoorK2
import Derived.Test.YtimcbmgmngkagaaGreatDoorK3
import Derived.Test.YtimcbmgmngkagaaGreatDoorK4
import Derived.Test.YtimcbmgmngkagaaGreatDoorK5
import Derived.Test.YtimcbmgmngkagaaGreatDoorK6
import Derived.Test.YtimcbmgmngkagaaGreatDoorK7
import Derived.Test.YtimcbmgmngkagaaGreatDoorK8
import Derived.Test.YtimcbmgmngkagaaGreatDoorK9
import Derived.Test.YtimcbmgmngkagaaGreatDoorK10
import Derived.Test.YtimcbmgmngkagaaGreatDoorK11
import Derived.Test.YtimcbmgmngkagaaGreatDoorK12
import Derived.Test.YtimcbmgmngkagaaGreatDoorK13
import Derived.Test.YtimcbmgmngkagaaGreatDoorK14
import Derived.Test.YtimcbmgmngkagaaGreatDoorK15
import Derived.Test.YtimcbmgmngkagaaGreatDoorK16
namespace Go.Proofs.YtimcbmgmngkagaaGreatDoor
open Go.RowKit Go.Maps

theorem MinorV.mono {w : World} {br bk bf bm : Nat} {ra : Option Addr} {n c cnt cnt' : Nat} {M : List (List Int)} {z : Int} {L : Nat} {e : Ending} {w' : World} (h : MinorV w br bk bf bm ra n c cnt M z L e w') (hc : cnt ≤ cnt') : MinorV w br bk bf bm ra n c cnt' M z L e w' := by
  obtain ⟨neg, p, m, d, xs, g', h1, h2, h3, h4⟩ := h
  exact ⟨neg, p, m, d, xs, g', h1, h2, h3.mono hc, h4⟩

theorem minor_any (br bk bf bm : Nat) (ra : Option Addr) (n c : Nat) (M : List (List Int)) (hn : n ≤ 6) (hM : M.length = n) (hsq : ∀ row ∈ M, row.length = n) :
    ∀ (k r u cnt : Nat) (g : Nat → Option Value) (w : World), r + k = n → u < 2 ^ n → pop n u = r → cnt + detS k ≤ 900000 → DetIs w br bk bf bm ra n c cnt M g →
      Calls Tryz.prog 156 (minorArgs r u br bk bf) w (MinorV w br bk bf bm ra n c (cnt + detS k) M (minorZ M n k u) (detL k)) := by
  intro k
  induction k with
  | zero =>
    intro r u cnt g w hr hu hp hc hd
    obtain rfl : r = n := by omega
    exact minor_none br bk bf bm ra r c cnt M g u w hn hd
  | succ k ih =>
    intro r u cnt g w hr hu hp hc hd
    cases hg : g u with
    | none => exact minor_step br bk bf bm ra n c M k hn hM hsq ih r u cnt g w hr hu hp hc hd hg
    | some v =>
      have h := minor_known br bk bf bm ra n c cnt M g r u w hn (by omega) hu hp hd v hg
      rw [show n - r = k + 1 by omega] at h
      exact h.mono fun e w' h => h.mono (by omega)

/-- Where the closure's variables lie. -/
def detW (w : World) (ra : Option Addr) (n c : Nat) : World :=
  (((((w.alloc (.cells #[.slice ra n c] 137)).alloc (.cells #[.bool false, .slice none 0 0] 78)).alloc (.map #[] 0)).alloc (.cells #[.map (some (w.heap.size + 1 + 1))] 175)).alloc
    (.cells #[.func (.func 156) #[] #[.pointer (some ⟨w.heap.size, 0, none⟩), .pointer (some ⟨w.heap.size + 1 + 1 + 1, 0, none⟩), .pointer (some ⟨w.heap.size + 1 + 1 + 1 + 1, 0, none⟩)]] 176))

theorem det_start (w : World) (ra : Option Addr) (n c : Nat) (M : List (List Int)) (hr : RowsIs w ra M 223) :
    DetIs (detW w ra n c) w.heap.size (w.heap.size + 1 + 1 + 1) (w.heap.size + 1 + 1 + 1 + 1) (w.heap.size + 1 + 1) ra n c 0 M (fun _ => none) ∧ Boxed2 (detW w ra n c) (w.heap.size + 1) (.bool false) (.slice none 0 0) 78 ∧ Below w.heap.size w (detW w ra n c) := by
  have hb : Below w.heap.size w (detW w ra n c) := by
    unfold detW
    exact (((((Below.refl _ w).alloc (Nat.le_refl _) _).alloc (by simp) _).alloc (by rw [World.size_alloc, World.size_alloc]; omega) _).alloc (by rw [World.size_alloc, World.size_alloc, World.size_alloc]; omega) _).alloc (by rw [World.size_alloc, World.size_alloc, World.size_alloc, World.size_alloc]; omega) _
  have keep : ∀ {W : World} {o' : Obj} (o : Obj) (i : Nat), W.heap[i]? = some o' → (W.alloc o).heap[i]? = some o' := fun {W} {_} o i h => ((World.grownBy_alloc W o none).block i (Array.getElem?_eq_some_iff.1 h).1 (by simp)).trans h
  refine ⟨{ r := ?_, k := ?_, f := ?_, m := ?_, rows := hr.below hb, kept := fun u v h => by cases h }, ?_, hb⟩
  · exact keep _ _ (keep _ _ (keep _ _ (keep _ _ (World.alloc_heap_new w _))))
  · refine keep _ _ ?_
    have := World.alloc_heap_new (((w.alloc (.cells #[.slice ra n c] 137)).alloc (.cells #[.bool false, .slice none 0 0] 78)).alloc (.map #[] 0)) (.cells #[.map (some (w.heap.size + 1 + 1))] 175)
    rwa [World.size_alloc, World.size_alloc, World.size_alloc] at this
  · have := World.alloc_heap_new ((((w.alloc (.cells #[.slice ra n c] 137)).alloc (.cells #[.bool false, .slice none 0 0] 78)).alloc (.map #[] 0)).alloc (.cells #[.map (some (w.heap.size + 1 + 1))] 175)) (.cells #[.func (.func 156) #[] #[.pointer (some ⟨w.heap.size, 0, none⟩), .pointer (some ⟨w.heap.size + 1 + 1 + 1, 0, none⟩), .pointer (some ⟨w.heap.size + 1 + 1 + 1 + 1, 0, none⟩)]] 176)
    rwa [World.size_alloc, World.size_alloc, World.size_alloc, World.size_alloc] at this
  · have h := MapIs.made ((w.alloc (.cells #[.slice ra n c] 137)).alloc (.cells #[.bool false, .slice none 0 0] 78))
    have e : ((w.alloc (.cells #[.slice ra n c] 137)).alloc (.cells #[.bool false, .slice none 0 0] 78)).heap.size = w.heap.size + 1 + 1 := by simp
    rw [e] at h
    exact (h.kept (World.grownBy_alloc _ _ none) (by simp)).kept (World.grownBy_alloc _ _ none) (by simp)
  · refine keep _ _ (keep _ _ (keep _ _ ?_))
    have := World.alloc_heap_new (w.alloc (.cells #[.slice ra n c] 137)) (.cells #[.bool false, .slice none 0 0] 78)
    rwa [World.size_alloc] at this

set_option maxHeartbeats 1000000 in
theorem determinant_in (ra : Option Addr) (n c : Nat) (M : List (List Int)) (w : World) (hn : n ≤ 6) (hM : M.length = n) (hsq : ∀ row ∈ M, row.length = n) (hr : RowsIs w ra M 223) :
    Calls Tryz.prog 121 #[.slice ra n c] w (NumV w (detZ M) (detL n)) := by
  have hmm := @run_makeMap Tryz.prog
  have hmf : ∀ (fn : Fn) (first cap : Array Value) (w : World), (Instr.makeFunc fn first cap).run Tryz.prog w = .ok (.func fn first cap) w := fun _ _ _ _ => rfl
  obtain ⟨h1, h2, h3⟩ := det_start w ra n c M hr
  have hcall := minor_any w.heap.size (w.heap.size + 1 + 1 + 1) (w.heap.size + 1 + 1 + 1 + 1) (w.heap.size + 1 + 1) ra n c M hn hM hsq n 0 0 0 (fun _ => none) (detW w ra n c) (by omega) (Nat.pow_pos (by decide)) (pop_zero n) (by have h4 : detS 6 = 9331 := (by decide); have h5 := detS_mono hn; omega) h1
  have hz : detZ M = minorZ M n n 0 := by unfold detZ; rw [hM]
  rw [hz]
  have HC := Lib.hid hcall
  have H1 := Lib.hid h1
  have H2 := Lib.hid h2
  have H3 := Lib.hid h3
  clear hr hM hsq hz hcall h1 h2 h3
  go_enter Tryz.func121, Tryz.ntmps121
  go_wp2_with fail
  refine HC.out.mono ?_
  rintro e w5 ⟨neg, p, m, d, xs, g', rfl, hx, hd, hg⟩
  have b5 := H2.out.grown H1.out.m.at hg
  have c0 := b5.cell0
  have c1 := b5.cell1
  have q0 := b5.frozen (i := 0)
  have q1 := b5.frozen (i := 1)
  have hb5 : Below w.heap.size w w5 := H3.out.trans ⟨hg.os, hg.tape, hg.output, hg.size, fun i hi => hg.block i (Nat.lt_of_lt_of_le hi H3.out.size) (fun e => by cases e; omega)⟩
  clear hg hd
  go_wp2_with fail
  have e0 := b5.set (.bool neg) (.slice p m d)
  have z0 := e0.cell0
  have z1 := e0.cell1
  exact bodyPost_ret (v := .agg #[.bool neg, .slice p m d]) (by simp [results, Tryz.results121, go_sem, z0, z1]) rfl ⟨neg, p, m, d, xs, rfl, hx.set2 b5 _ _, (hb5.setCell (by simp) _).setCell (by simp) _⟩

end Go.Proofs.YtimcbmgmngkagaaGreatDoor

namespace Go.Proofs.YtimcbmgmngkagaaGreatDoor
open Go.RowKit Go.Maps

/-- Rows of strings. -/
def RdM (w : World) (a : Option Addr) (m : List (List ByteArray)) : Prop :=
  ∀ i row, m[i]? = some row → ∃ b off p c, a = some ⟨b, off, none⟩ ∧ b < w.heap.size ∧ w.cell? ⟨b, off + i, none⟩ = some (.slice p row.length c) ∧ RdS w p row

theorem RdM.below {w w' : World} {a : Option Addr} {m : List (List ByteArray)} (h : RdM w a m) (hb : Below w.heap.size w w') : RdM w' a m := by
  intro i row hi
  obtain ⟨b, off, p, c, ha, hlt, hc, hr⟩ := h i row hi
  exact ⟨b, off, p, c, ha, Nat.lt_of_lt_of_le hlt hb.size, (hb.cell (p := ⟨b, _, none⟩) hlt).trans hc, hr.below hb⟩

/-- The first rows of n are as long as all are, and not too many. -/
def sqB (n : Nat) (m : List (List ByteArray)) : Bool := decide (n ≤ 6) && m.all fun row => decide (row.length = n)
def numsB (m : List (List ByteArray)) : Bool := m.all allB
def detErr (m : List (List ByteArray)) : Int := if numsB m then (if sqB m.length m then outE (detZ (m.map vals)) else 1) else 6
def detStr (m : List (List ByteArray)) : List UInt8 := if numsB m then (if sqB m.length m then outS (detZ (m.map vals)) else []) else []

theorem take_all {α : Type} {l : List α} {p : α → Bool} {j : Nat} (hj : j < l.length) : (l.take (j + 1)).all p = ((l.take j).all p && p l[j]) := by
  rw [List.take_succ_eq_append_getElem hj, List.all_append]; simp

theorem sq_take {n : Nat} {m : List (List ByteArray)} {j : Nat} (hj : j < m.length) : sqB n (m.take (j + 1)) = (sqB n (m.take j) && decide (m[j].length = n)) := by
  unfold sqB; rw [take_all hj, Bool.and_assoc]

theorem Tryz.info93 : (Tryz.prog.info? 138).map (fun i => (i.zero, i.size, i.bytes)) = some (some (.slice none 0 0), 1, 24) := by kernel_rfl

theorem mkRows (n : Nat) (hn : n ≤ 1000000) (w : World) : (Instr.makeSlice 137 (.int .i64 (n : Int)) (.int .i64 (n : Int))).run Tryz.prog w = .ok (.slice (some ⟨w.heap.size, 0, none⟩) n n) (w.alloc (.cells (Go.madeCells #[.slice none 0 0] n) 138)) :=
  run_make_row' _ _ (.slice none 0 0) 24 Tryz.underlying137 Tryz.info93 rfl .i64 .i64 n (by omega) (by omega) w

/-- Block B holds slices alone. -/
def Slices (w : World) (B : Nat) : Prop := ∃ cs, w.heap[B]? = some (.cells cs 138 (0, 0)) ∧ ∀ (i : Nat) (v : Value), cs[i]? = some v → ∃ p k c, v = Value.slice p k c

theorem Nums.setSlice {w : World} {p : Option Addr} {zs : List Int} {L : Nat} (h : Nums w p zs L) {B i : Nat} (hB : Slices w B) {u : Value} (hu : w.cell? ⟨B, i, none⟩ = some u) (v : Value) : Nums (w.setCell ⟨B, i, none⟩ v) p zs L := by
  obtain ⟨cs, hh, hall⟩ := hB
  have hcell : ∀ j, w.cell? ⟨B, j, none⟩ = cs[j]? := fun j => by simp [World.cell?, hh]
  have hu' := hall i u (by rw [← hcell]; exact hu)
  intro j z hz
  obtain ⟨b, off, neg, q, n, c, xs, ha, hlt, h0, h1, hn⟩ := h j z hz
  have hne : b ≠ B := by
    rintro rfl
    rw [hcell] at h0
    obtain ⟨_, _, _, e⟩ := hall _ _ h0
    cases e
  refine ⟨b, off, neg, q, n, c, xs, ha, by simpa using hlt, ?_, ?_, hn.set hu (fun x e => by obtain ⟨_, _, _, e'⟩ := hu'; rw [e'] at e; cases e) v⟩
  · rw [World.cell?_setCell_other _ _ _ _ (fun e => hne (by cases e; rfl))]; exact h0
  · rw [World.cell?_setCell_other _ _ _ _ (fun e => hne (by cases e; rfl))]; exact h1

/-- What is done of the rows. -/
def RPart (w : World) (B n : Nat) (M : List (List Int)) : Prop :=
  ∃ cs : Array Value, w.heap[B]? = some (.cells cs 138 (0, 0)) ∧ cs.size = n ∧ (∀ (i : Nat) (v : Value), cs[i]? = some v → ∃ p k c, v = Value.slice p k c) ∧
    ∀ (i : Nat) (row : List Int), M[i]? = some row → ∃ (p : Option Addr) (c : Nat), cs[i]? = some (Value.slice p row.length c) ∧ Nums w p row 223

theorem RPart.rows {w : World} {B n : Nat} {M : List (List Int)} (h : RPart w B n M) : RowsIs w (some ⟨B, 0, none⟩) M 223 := by
  obtain ⟨cs, hh, hn, _, hz⟩ := h
  intro i row hi
  obtain ⟨p, c, h0, hx⟩ := hz i row hi
  exact ⟨B, 0, p, c, rfl, (Array.getElem?_eq_some_iff.1 hh).1, by simp [World.cell?, hh, h0], hx⟩

theorem RPart.below {w w' : World} {B n : Nat} {M : List (List Int)} (h : RPart w B n M) (hb : Below w.heap.size w w') : RPart w' B n M := by
  obtain ⟨cs, hh, hn, hv, hz⟩ := h
  refine ⟨cs, (hb.block B (Array.getElem?_eq_some_iff.1 hh).1).trans hh, hn, hv, fun i row hi => ?_⟩
  obtain ⟨p, c, h0, hx⟩ := hz i row hi
  exact ⟨p, c, h0, hx.below hb⟩

theorem RPart.put {w : World} {B n : Nat} {M : List (List Int)} (h : RPart w B n M) {p : Option Addr} {k c : Nat} {row : List Int} (hk : row.length = k) (hx : Nums w p row 223) (hlt : M.length < n) :
    RPart (w.setCell ⟨B, M.length, none⟩ (.slice p k c)) B n (M ++ [row]) ∧ (∃ u, w.cell? ⟨B, M.length, none⟩ = some u) ∧ w.frozen? ⟨B, M.length, none⟩ = false := by
  subst hk
  obtain ⟨cs, hh, hn, hv, hz⟩ := h
  have hc : ∀ i, w.cell? ⟨B, i, none⟩ = cs[i]? := fun i => by simp [World.cell?, hh]
  have l0 : M.length < cs.size := by omega
  have u0 : w.cell? ⟨B, M.length, none⟩ = some cs[M.length] := by rw [hc, Array.getElem?_eq_getElem l0]
  refine ⟨⟨cs.setIfInBounds M.length (.slice p row.length c), ?_, by simp [hn], ?_, ?_⟩, ⟨_, u0⟩, by simp [World.frozen?, hh]⟩
  · rw [Lib.heap_setCell_same hh]
  · intro i v hi
    rw [Array.getElem?_setIfInBounds] at hi
    split at hi
    · first
        | (cases hi; exact ⟨_, _, _, rfl⟩)
        | (split at hi <;> cases hi; exact ⟨_, _, _, rfl⟩)
    · exact hv _ _ hi
  · intro i row' hi
    rcases Nat.lt_or_ge i M.length with hlt' | hge
    · rw [List.getElem?_append_left hlt'] at hi
      obtain ⟨p', c', h0, hx'⟩ := hz i row' hi
      exact ⟨p', c', by rw [Array.getElem?_setIfInBounds_ne (by omega)]; exact h0, hx'.setSlice ⟨cs, hh, hv⟩ u0 _⟩
    · obtain rfl : i = M.length := by
        have := (List.getElem?_eq_some_iff.1 hi).1
        simp at this; omega
      simp at hi
      subst hi
      exact ⟨p, c, by rw [Array.getElem?_setIfInBounds_self_of_lt l0], hx.setSlice ⟨cs, hh, hv⟩ u0 _⟩

def DetOut (w : World) (m : List (List ByteArray)) (e : Ending) (w' : World) : Prop := e = .returned (.tuple #[.string ⟨(detStr m).toArray⟩, .int .i64 (detErr m)]) ∧ Below w.heap.size w w'

set_option maxRecDepth 100000 in
set_option maxHeartbeats 2000000 in
theorem det_any (a : Option Addr) (n c : Nat) (m : List (List ByteArray)) (w : World) (hl : m.length = n) (hn : n ≤ 1000000000000) (hr : RdM w a m) (hs : ∀ row ∈ m, row.length ≤ 1000000000000 ∧ ∀ s ∈ row, s.size ≤ maxLen) (htab : Tab w) :
    Calls Tryz.prog 78 #[.slice a n c] w (DetOut w m) := by
  have HL := Lib.hid hl
  have HR := Lib.hid hr
  have HS := Lib.hid hs
  have HT := Lib.hid htab
  obtain ⟨s6, hs6⟩ : ∃ s6, decide ((n : Int) ≤ 6) = s6 := ⟨_, rfl⟩
  have h06 : Hid (sqB n (m.take 0) = s6) := by
    show sqB n (m.take 0) = s6
    rw [← hs6]; unfold sqB
    simp; omega
  clear hl hr hs htab
  go_enter Tryz.func78, Tryz.ntmps78
  go_wp2_with fail
  clear hs6
  go_loopg [4, 15] n (fun gk v4 i wr => ∃ (j : Nat) (sq : Bool), j ≤ n ∧ gk = n - j ∧ i = .int .i64 j ∧ v4 = .bool sq ∧ Hid (sqB n (m.take j) = sq) ∧ Hid (numsB (m.take j) = true) ∧ Below w.heap.size w wr)
  case atStart => exact ⟨0, s6, Nat.zero_le _, rfl, rfl, rfl, h06, rfl, Below.refl _ _⟩
  case round =>
    obtain ⟨j, sq, hj, hgk, rfl, rfl, HSQ, HNU, hb⟩ := hrel
    have HGK := Lib.hid hgk
    clear hgk
    by_cases hlt : j < n
    · have hjl : j < m.length := by rw [HL.out]; exact hlt
      obtain ⟨b, off, p, c', rfl, hb1, hc, hrs⟩ := (HR.out.below hb) j _ (List.getElem?_eq_getElem hjl)
      have hrow := HS.out _ (List.getElem_mem hjl)
      have hsq := sq_take (n := n) hjl
      have hnu : numsB (m.take (j + 1)) = (numsB (m.take j) && allB m[j]) := take_all hjl
      have hnf : allB m[j] = false → numsB m = false := fun h => by
        unfold numsB; rw [List.all_eq_false]; exact ⟨m[j], List.getElem_mem _, by simp [h]⟩
      generalize m[j] = row at *
      have H1 := Lib.hid hrow.1
      have H2 := Lib.hid hrow.2
      have H3 := Lib.hid hsq
      have H4 := Lib.hid hnu
      have H5 := Lib.hid hrs
      have H6 := Lib.hid hnf
      clear hrow hsq hnu hrs hnf
      cases hab : allB row
      · have HA := Lib.hid hab
        clear hab
        go_wp2_with (go_at_call 119; refine (areAll_any _ _ _ row _ rfl H1.out H5.out H2.out).mono ?_; rintro e w1 ⟨rfl, hb1⟩; rw [HA.out])
        go_ret2
        have h6 := H6.out HA.out
        refine ⟨?_, hb.trans (hb1.mono hb.size)⟩
        unfold detStr detErr
        rw [h6]; rfl
      · have HA := Lib.hid hab
        clear hab
        cases sq
        · go_wp2_with (go_at_call 119; refine (areAll_any _ _ _ row _ rfl H1.out H5.out H2.out).mono ?_; rintro e w1 ⟨rfl, hb1⟩; rw [HA.out])
          go_roundg (n - (j + 1))
          case measure => rw [HGK.out]; omega
          case rel => exact ⟨j + 1, false, by omega, rfl, by go_num, rfl, (by show sqB n (m.take (j + 1)) = false; rw [H3.out, HSQ.out]; rfl), (by show numsB (m.take (j + 1)) = true; rw [H4.out, HNU.out, HA.out]; rfl), hb.trans (hb1.mono hb.size)⟩
        · by_cases hrn : row.length = n
          · have hz : ((row.length : Int) == (n : Int)) = true := by simp; omega
            have HRN := Lib.hid hrn
            clear hrn
            go_wp2_with (go_at_call 119; refine (areAll_any _ _ _ row _ rfl H1.out H5.out H2.out).mono ?_; rintro e w1 ⟨rfl, hb1⟩; rw [HA.out])
            go_roundg (n - (j + 1))
            case measure => rw [HGK.out]; omega
            case rel => exact ⟨j + 1, true, by omega, rfl, by go_num, rfl, (by show sqB n (m.take (j + 1)) = true; rw [H3.out, HSQ.out, HRN.out]; simp), (by show numsB (m.take (j + 1)) = true; rw [H4.out, HNU.out, HA.out]; rfl), hb.trans (hb1.mono hb.size)⟩
          · have hz : ((row.length : Int) == (n : Int)) = false := by simp; omega
            have HRN := Lib.hid hrn
            clear hrn
            go_wp2_with (go_at_call 119; refine (areAll_any _ _ _ row _ rfl H1.out H5.out H2.out).mono ?_; rintro e w1 ⟨rfl, hb1⟩; rw [HA.out])
            go_roundg (n - (j + 1))
            case measure => rw [HGK.out]; omega
            case rel => exact ⟨j + 1, false, by omega, rfl, by go_num, rfl, (by show sqB n (m.take (j + 1)) = false; rw [H3.out, HSQ.out]; simp [HRN.out]), (by show numsB (m.take (j + 1)) = true; rw [H4.out, HNU.out, HA.out]; rfl), hb.trans (hb1.mono hb.size)⟩
    · obtain rfl : j = n := by omega
      have hmt : m.take j = m := List.take_of_length_le (by rw [HL.out]; exact Nat.le_refl _)
      rw [hmt] at HSQ HNU
      clear hmt
      cases sq
      · go_wp2_with fail
        go_ret2
        refine ⟨?_, hb⟩
        unfold detStr detErr
        rw [HL.out, HNU.out, HSQ.out]; rfl
      · have hq := HSQ.out
        unfold sqB at hq
        simp only [Bool.and_eq_true, decide_eq_true_eq, List.all_eq_true] at hq
        obtain ⟨hj6, hrl⟩ := hq
        have HRL := Lib.hid hrl
        have hmk := mkRows j (by omega) wr
        have hP : Hid (RPart (wr.alloc (.cells (Go.madeCells #[.slice none 0 0] j) 138)) wr.heap.size j ((m.take 0).map vals)) := by
          refine ⟨_, World.alloc_heap_new wr _, Go.size_madeCells _ _, fun i v h => ?_, fun i row h => by simp at h⟩
          have hi := (Array.getElem?_eq_some_iff.1 h).1
          rw [Go.size_madeCells] at hi
          simp [Go.madeCells, hi, Nat.mod_one] at h
          first | exact ⟨_, _, _, h.symm⟩ | exact ⟨_, _, _, h⟩
        have hb2 : Below w.heap.size w (wr.alloc (.cells (Go.madeCells #[.slice none 0 0] j) 138)) := hb.alloc hb.size _
        have y0 : wr.heap.size < (wr.alloc (.cells (Go.madeCells #[.slice none 0 0] j) 138)).heap.size := by simp
        have HSZ := hb.size
        clear hrl
        go_wp2_with fail
        clear hmk
        go_loopg [38] j (fun gk i wx => ∃ (q : Nat), q ≤ j ∧ gk = j - q ∧ i = .int .i64 q ∧ Hid (RPart wx wr.heap.size j ((m.take q).map vals)) ∧ wr.heap.size < wx.heap.size ∧ Below w.heap.size w wx)
        case atStart => exact ⟨0, Nat.zero_le _, rfl, rfl, hP, y0, hb2⟩
        case round =>
          clear hP y0 hb2
          obtain ⟨q, hq, hgk, rfl, hp, hlt0, hb3⟩ := hrel
          have HGK2 := Lib.hid hgk
          clear hgk
          by_cases hlt : q < j
          · have hjl : q < m.length := by rw [HL.out]; exact hlt
            have hlen : ((m.take q).map vals).length = q := by simp; omega
            obtain ⟨b, off, p, c', rfl, hb1, hc, hrs⟩ := (HR.out.below hb3) q _ (List.getElem?_eq_getElem hjl)
            have hrow := HS.out _ (List.getElem_mem hjl)
            have hrl := HRL.out _ (List.getElem_mem hjl)
            have hab : allB m[q] = true := (List.all_eq_true.1 HNU.out) _ (List.getElem_mem hjl)
            have hvs : (m.take (q + 1)).map vals = (m.take q).map vals ++ [vals m[q]] := by rw [List.take_succ_eq_append_getElem hjl, List.map_append]; rfl
            generalize m[q] = row at *
            have H2 := Lib.hid hrow.2
            have H5 := Lib.hid hrs
            have HA := Lib.hid hab
            have HV := Lib.hid hvs
            have HRW := Lib.hid hrl
            rw [hrl] at hc
            clear hrow hrs hab hvs hrl
            go_wp2_with (go_at_call 120; refine (readAll_any _ _ _ row _ HRW.out (by omega) H5.out H2.out HA.out).mono ?_; rintro e w1 ⟨B, rfl, hnum, hb4⟩; obtain ⟨q1, ⟨u, q2⟩, q3⟩ := (hp.out.below hb4).put (k := j) (c := j) (by unfold vals; rw [List.length_map]; exact HRW.out) hnum (by rw [hlen]; exact hlt); rw [hlen] at q1 q2 q3)
            go_roundg (j - (q + 1))
            case measure => rw [HGK2.out]; omega
            case rel => exact ⟨q + 1, by omega, rfl, by go_num, (by rw [HV.out]; exact q1), by simp; exact Nat.lt_of_lt_of_le hlt0 hb4.size, (hb3.trans (hb4.mono hb3.size)).setCell HSZ _⟩
          · obtain rfl : q = j := by omega
            have hmt : m.take q = m := List.take_of_length_le (by rw [HL.out]; exact Nat.le_refl _)
            have hrows := hp.out.rows
            rw [hmt] at hrows
            have hML : (m.map vals).length = q := by rw [List.length_map]; exact HL.out
            have hMS : ∀ row ∈ m.map vals, row.length = q := fun row hrow => by
              obtain ⟨r, h1, rfl⟩ := List.mem_map.1 hrow
              unfold vals; rw [List.length_map]; exact HRL.out r h1
            have HMT := Lib.hid hmt
            have HML := Lib.hid hML
            have HMS := Lib.hid hMS
            have HRO := Lib.hid hrows
            clear hmt hML hMS hrows hp
            go_wp2_with (first
              | (go_at_call 121; refine (determinant_in _ _ _ _ _ hj6 HML.out HMS.out HRO.out).mono ?_; rintro e w5 ⟨neg, p, k, d, xs, rfl, hx, hb5⟩; have hb6 := hb3.trans (hb5.mono hb3.size))
              | (go_at_call 69; refine (written_any _ _ _ _ _ _ _ _ hx (by unfold detL; omega) (HT.out.below hb6)).mono ?_; rintro e w6 ⟨rfl, hb7⟩))
            go_ret2
            refine ⟨?_, hb6.trans (hb7.mono hb6.size)⟩
            unfold detStr detErr
            rw [HL.out, HNU.out, HSQ.out]; rfl

end Go.Proofs.YtimcbmgmngkagaaGreatDoor

namespace Go.Proofs.YtimcbmgmngkagaaGreatDoor
open Go.RowKit

def b20 : ByteArray := ⟨#[57, 57, 57, 57, 57, 57, 57, 57, 57, 57, 57, 57, 57, 57, 57, 57, 57, 57, 57, 57]⟩
def b40 : ByteArray := ⟨#[57, 57, 57, 57, 57, 57, 57, 57, 57, 57, 57, 57, 57, 57, 57, 57, 57, 57, 57, 56, 48, 48, 48, 48, 48, 48, 48, 48, 48, 48, 48, 48, 48, 48, 48, 48, 48, 48, 48, 49]⟩

theorem aw_mul (w : World) (htab : Tab w) : Calls Tryz.prog 77 #[.string b20, .string b20] w fun e w' => e = .returned (.tuple #[.string b40, .int .i64 0]) ∧ Below w.heap.size w w' := by
  refine (mul_any b20 b20 w (by decide) (by decide) htab).mono ?_
  rintro e w' ⟨rfl, hb⟩
  have h1 : apiS (numB b20.data.toList && numB b20.data.toList) (strV b20.data.toList * strV b20.data.toList) = b40.data.toList := by decide +kernel
  have h2 : apiE (numB b20.data.toList && numB b20.data.toList) (strV b20.data.toList * strV b20.data.toList) = 0 := by decide +kernel
  rw [h1, h2]
  exact ⟨rfl, hb⟩

theorem aw_div1 (w : World) (htab : Tab w) : Calls Tryz.prog 13 #[.string ⟨#[45, 55]⟩, .string ⟨#[50]⟩] w fun e w' => e = .returned (.tuple #[.string ⟨#[45, 52]⟩, .string ⟨#[49]⟩, .int .i64 0]) ∧ Below w.heap.size w w' := by
  refine (div_any ⟨#[45, 55]⟩ ⟨#[50]⟩ w (by decide) (by decide) htab (fun _ _ _ => canDiv_one (by decide +kernel) (by decide +kernel))).mono ?_
  rintro e w' ⟨rfl, hb⟩
  have h1 : divQ (numB (⟨#[45, 55]⟩ : ByteArray).data.toList && numB (⟨#[50]⟩ : ByteArray).data.toList) (strV (⟨#[45, 55]⟩ : ByteArray).data.toList) (strV (⟨#[50]⟩ : ByteArray).data.toList) = [45, 52] := by decide +kernel
  have h2 : divR (numB (⟨#[45, 55]⟩ : ByteArray).data.toList && numB (⟨#[50]⟩ : ByteArray).data.toList) (strV (⟨#[45, 55]⟩ : ByteArray).data.toList) (strV (⟨#[50]⟩ : ByteArray).data.toList) = [49] := by decide +kernel
  have h3 : divE (numB (⟨#[45, 55]⟩ : ByteArray).data.toList && numB (⟨#[50]⟩ : ByteArray).data.toList) (strV (⟨#[50]⟩ : ByteArray).data.toList) = 0 := by decide +kernel
  rw [h1, h2, h3]
  exact ⟨rfl, hb⟩

theorem aw_div2 (w : World) (htab : Tab w) : Calls Tryz.prog 13 #[.string ⟨#[45, 55]⟩, .string ⟨#[45, 50]⟩] w fun e w' => e = .returned (.tuple #[.string ⟨#[52]⟩, .string ⟨#[49]⟩, .int .i64 0]) ∧ Below w.heap.size w w' := by
  refine (div_any ⟨#[45, 55]⟩ ⟨#[45, 50]⟩ w (by decide) (by decide) htab (fun _ _ _ => canDiv_one (by decide +kernel) (by decide +kernel))).mono ?_
  rintro e w' ⟨rfl, hb⟩
  have h1 : divQ (numB (⟨#[45, 55]⟩ : ByteArray).data.toList && numB (⟨#[45, 50]⟩ : ByteArray).data.toList) (strV (⟨#[45, 55]⟩ : ByteArray).data.toList) (strV (⟨#[45, 50]⟩ : ByteArray).data.toList) = [52] := by decide +kernel
  have h2 : divR (numB (⟨#[45, 55]⟩ : ByteArray).data.toList && numB (⟨#[45, 50]⟩ : ByteArray).data.toList) (strV (⟨#[45, 55]⟩ : ByteArray).data.toList) (strV (⟨#[45, 50]⟩ : ByteArray).data.toList) = [49] := by decide +kernel
  have h3 : divE (numB (⟨#[45, 55]⟩ : ByteArray).data.toList && numB (⟨#[45, 50]⟩ : ByteArray).data.toList) (strV (⟨#[45, 50]⟩ : ByteArray).data.toList) = 0 := by decide +kernel
  rw [h1, h2, h3]
  exact ⟨rfl, hb⟩

def aw4 : List (List ByteArray) := [[⟨#[49]⟩, ⟨#[50]⟩], [⟨#[51]⟩, ⟨#[52]⟩]]

def awW (w : World) : World := ((w.alloc (.cells #[.string ⟨#[49]⟩, .string ⟨#[50]⟩] 9)).alloc (.cells #[.string ⟨#[51]⟩, .string ⟨#[52]⟩] 9)).alloc (.cells #[.slice (some ⟨w.heap.size, 0, none⟩) 2 2, .slice (some ⟨w.heap.size + 1, 0, none⟩) 2 2] 65)

theorem awW_below (w : World) : Below w.heap.size w (awW w) := (((Below.refl _ w).alloc (Nat.le_refl _) _).alloc (by simp) _).alloc (by rw [World.size_alloc, World.size_alloc]; omega) _

theorem aw_rows (w : World) : RdM (awW w) (some ⟨w.heap.size + 1 + 1, 0, none⟩) aw4 := by
  have keep : ∀ {W : World} {o' : Obj} (o : Obj) (i : Nat), W.heap[i]? = some o' → (W.alloc o).heap[i]? = some o' := fun {W} {_} o i h => ((World.grownBy_alloc W o none).block i (Array.getElem?_eq_some_iff.1 h).1 (by simp)).trans h
  have h0 : (awW w).heap[w.heap.size]? = some (.cells #[.string ⟨#[49]⟩, .string ⟨#[50]⟩] 9 (0, 0)) := keep _ _ (keep _ _ (World.alloc_heap_new w _))
  have h1 : (awW w).heap[w.heap.size + 1]? = some (.cells #[.string ⟨#[51]⟩, .string ⟨#[52]⟩] 9 (0, 0)) := by
    refine keep _ _ ?_
    have := World.alloc_heap_new (w.alloc (.cells #[.string ⟨#[49]⟩, .string ⟨#[50]⟩] 9)) (.cells #[.string ⟨#[51]⟩, .string ⟨#[52]⟩] 9)
    rwa [World.size_alloc] at this
  have h2 : (awW w).heap[w.heap.size + 1 + 1]? = some (.cells #[.slice (some ⟨w.heap.size, 0, none⟩) 2 2, .slice (some ⟨w.heap.size + 1, 0, none⟩) 2 2] 65 (0, 0)) := by
    have := World.alloc_heap_new ((w.alloc (.cells #[.string ⟨#[49]⟩, .string ⟨#[50]⟩] 9)).alloc (.cells #[.string ⟨#[51]⟩, .string ⟨#[52]⟩] 9)) (.cells #[.slice (some ⟨w.heap.size, 0, none⟩) 2 2, .slice (some ⟨w.heap.size + 1, 0, none⟩) 2 2] 65)
    rwa [World.size_alloc, World.size_alloc] at this
  have lt : ∀ {b : Nat} {o : Obj}, (awW w).heap[b]? = some o → b < (awW w).heap.size := fun h => (Array.getElem?_eq_some_iff.1 h).1
  have r0 : RdS (awW w) (some ⟨w.heap.size, 0, none⟩) [⟨#[49]⟩, ⟨#[50]⟩] := by
    intro i s hs
    refine ⟨w.heap.size, 0, rfl, lt h0, ?_⟩
    match i, hs with
    | 0, hs => cases hs; simp [World.cell?, h0]
    | 1, hs => cases hs; simp [World.cell?, h0]
    | i + 2, hs => simp at hs
  have r1 : RdS (awW w) (some ⟨w.heap.size + 1, 0, none⟩) [⟨#[51]⟩, ⟨#[52]⟩] := by
    intro i s hs
    refine ⟨w.heap.size + 1, 0, rfl, lt h1, ?_⟩
    match i, hs with
    | 0, hs => cases hs; simp [World.cell?, h1]
    | 1, hs => cases hs; simp [World.cell?, h1]
    | i + 2, hs => simp at hs
  intro i row hi
  match i, hi with
  | 0, hi => cases hi; exact ⟨w.heap.size + 1 + 1, 0, _, 2, rfl, lt h2, by simp [World.cell?, h2], r0⟩
  | 1, hi => cases hi; exact ⟨w.heap.size + 1 + 1, 0, _, 2, rfl, lt h2, by simp [World.cell?, h2], r1⟩
  | i + 2, hi => simp [aw4] at hi

theorem aw_det (w : World) (htab : Tab w) : Calls Tryz.prog 78 #[.slice (some ⟨w.heap.size + 1 + 1, 0, none⟩) 2 2] (awW w) fun e w' => e = .returned (.tuple #[.string ⟨#[45, 50]⟩, .int .i64 0]) ∧ Below w.heap.size w w' := by
  have hb := awW_below w
  refine (det_any (some ⟨w.heap.size + 1 + 1, 0, none⟩) 2 2 aw4 (awW w) rfl (by decide) (aw_rows w) (by unfold aw4 maxLen; decide) (htab.below hb)).mono ?_
  rintro e w' ⟨rfl, hb2⟩
  have h1 : detStr aw4 = [45, 50] := by decide +kernel
  have h2 : detErr aw4 = 0 := by decide +kernel
  rw [h1, h2]
  exact ⟨rfl, hb.trans (hb2.mono hb.size)⟩

def bMin : ByteArray := ⟨#[45, 57, 50, 50, 51, 51, 55, 50, 48, 51, 54, 56, 53, 52, 55, 55, 53, 56, 48, 56]⟩
theorem aw_toInt (w : World) (herr : ErrLaid w) : Calls Tryz.prog 79 #[.string bMin] w fun e w' => e = .returned (.tuple #[.int .i64 (-9223372036854775808), .bool true]) ∧ Below w.heap.size w w' := by
  refine (toInt_any bMin w (by decide) herr).mono ?_
  rintro e w' ⟨rfl, hb⟩
  have h1 : toInt bMin.data.toList = -9223372036854775808 := by decide +kernel
  have h2 : toOk bMin.data.toList = true := by decide +kernel
  rw [h1, h2]
  exact ⟨rfl, hb⟩

theorem aw_is (s : ByteArray) (b : Bool) (h : numB s.data.toList = b) (hs : s.size ≤ maxLen) (w : World) : Calls Tryz.prog 80 #[.string s] w fun e w' => e = .returned (.bool b) ∧ Below w.heap.size w w' := by
  subst h; exact is_any s w hs

set_option maxRecDepth 100000 in
set_option maxHeartbeats 2000000 in
theorem awake_any (w : World) (htab : Tab w) (herr : ErrLaid w) : Calls Tryz.prog 23 #[] w fun e w' => e = .returned (.bool true) ∧ Below w.heap.size w w' := by
  go_enter Tryz.func23, Tryz.ntmps23
  go_wp2_with fail
  refine (aw_mul _ htab).mono ?_
  rintro e w1 ⟨rfl, hb1⟩
  unfold b40
  go_wp2_with fail
  refine (aw_div1 _ (htab.below hb1)).mono ?_
  rintro e w2 ⟨rfl, hb2'⟩
  have hb2 := hb1.trans (hb2'.mono hb1.size)
  go_wp2_with fail
  refine (aw_div2 _ (htab.below hb2)).mono ?_
  rintro e w3 ⟨rfl, hb3'⟩
  have hb3 := hb2.trans (hb3'.mono hb2.size)
  go_wp2_with fail
  refine (aw_det w3 (htab.below hb3)).mono ?_
  rintro e w4 ⟨rfl, hb4'⟩
  have hb4 := hb3.trans (hb4'.mono hb3.size)
  go_wp2_with fail
  refine (aw_toInt _ (herr.below hb4)).mono ?_
  rintro e w5 ⟨rfl, hb5'⟩
  have hb5 := hb4.trans (hb5'.mono hb4.size)
  go_wp2_with fail
  refine (aw_is ⟨#[45, 48]⟩ false (by decide +kernel) (by decide) _).mono ?_
  rintro e w6 ⟨rfl, hb6'⟩
  have hb6 := hb5.trans (hb6'.mono hb5.size)
  go_wp2_with fail
  refine (aw_is ⟨#[48, 49]⟩ false (by decide +kernel) (by decide) _).mono ?_
  rintro e w7 ⟨rfl, hb7'⟩
  have hb7 := hb6.trans (hb7'.mono hb6.size)
  go_wp2_with fail
  refine (aw_is ⟨#[43, 49]⟩ false (by decide +kernel) (by decide) _).mono ?_
  rintro e w8 ⟨rfl, hb8'⟩
  have hb8 := hb7.trans (hb8'.mono hb7.size)
  go_wp2_with fail
  refine (aw_is ⟨#[45, 49, 48]⟩ true (by decide +kernel) (by decide) _).mono ?_
  rintro e w9 ⟨rfl, hb9'⟩
  have hb9 := hb8.trans (hb9'.mono hb8.size)
  go_wp2_with fail
  go_ret
  exact ⟨rfl, hb9⟩


end Go.Proofs.YtimcbmgmngkagaaGreatDoor

namespace Go.Proofs.YtimcbmgmngkagaaGreatDoor
open Go.RowKit

theorem gcdAny (a b : List UInt8) (w : World) (ha : a.length ≤ 1000000000) (hb : b.length ≤ 1000000000) (htab : Tab w) : Calls Tryz.prog 14 #[.string ⟨a.toArray⟩, .string ⟨b.toArray⟩] w (ApiIs w (numB a && numB b) ((Int.gcd (strV a) (strV b) : Nat) : Int)) := by
  cases h : (numB a && numB b)
  · exact gcd_bad ⟨a.toArray⟩ ⟨b.toArray⟩ w (bytes_small ha) (bytes_small hb) (by rw [bytes_data, bytes_data]; exact h) _
  · rw [Bool.and_eq_true] at h
    have := gcd_ok ⟨a.toArray⟩ ⟨b.toArray⟩ w (bytes_small ha) (bytes_small hb) (by rw [bytes_data]; exact h.1) (by rw [bytes_data]; exact h.2) htab
    rw [bytes_data, bytes_data] at this
    exact this

set_option maxRecDepth 100000 in
set_option maxHeartbeats 8000000 in
theorem wideQuotients_walk (x y : List UInt8) (w : World) (hxl : x.length ≤ 9223372036854775807) (hyl : y.length ≤ 9223372036854775807) (htab : Tab w) (herr : ErrLaid w) :
    Calls Tryz.prog 3 #[.string ⟨x.toArray⟩, .string ⟨y.toArray⟩] w fun e w' => e = .returned (.bool true) ∧ Below w.heap.size w w' := by
  have HT := Lib.hid htab
  have HE := Lib.hid herr
  have HCX := Lib.hid (fun W => clean_any x 80 W hxl (by omega) (by omega))
  have HCY := Lib.hid (fun W => clean_any y 50 W hyl (by omega) (by omega))
  clear htab herr
  go_enter Tryz.func3, Tryz.ntmps3
  go_wp2_with fail
  refine (calls_flip (part_any x 120 _ hxl (by omega))).mono ?_
  rintro e w' ⟨rfl, rfl⟩
  go_wp2_with fail
  refine (calls_flip (part_any y 120 _ hyl (by omega))).mono ?_
  rintro e w' ⟨rfl, rfl⟩
  go_wp2_with fail
  go_loopg [5, 6, 7] 3 (fun gk v5 v6 v7 wr => ∃ (j : Nat) (a b : List UInt8), j ≤ 3 ∧ gk = 3 - j ∧ v7 = .int .i64 (j : Int) ∧ v5 = .string ⟨a.toArray⟩ ∧ v6 = .string ⟨b.toArray⟩ ∧ a.length ≤ 200 ∧ b.length ≤ 200 ∧ Below w.heap.size w wr)
  case atStart => exact ⟨0, x.take 120, y.take 120, by omega, rfl, rfl, rfl, rfl, by rw [List.length_take]; omega, by rw [List.length_take]; omega, Below.refl _ _⟩
  case round =>
    obtain ⟨j, a, b, hj, hgk, rfl, rfl, rfl, hal, hbl, hb⟩ := hrel
    have HGK := Lib.hid hgk
    clear hgk
    by_cases hlt : j < 3
    · have hji : (j : Int) < 3 := by omega
      have e0 : (⟨a.toArray⟩ : ByteArray).data.toList = a := bytes_data a
      have e1 : (⟨b.toArray⟩ : ByteArray).data.toList = b := bytes_data b
      have hdv := fun W ht => div_all ⟨a.toArray⟩ ⟨b.toArray⟩ W (bytes_small (by omega)) (bytes_small (by omega)) ht
      have hgc := fun W ht => gcdAny a b W (by omega) (by omega) ht
      rw [e0, e1] at hdv
      obtain ⟨ok, hok⟩ : ∃ ok, (numB a && numB b) = ok := ⟨_, rfl⟩
      rw [hok] at hdv hgc
      obtain ⟨Q, hQ⟩ : ∃ Q, divQ ok (strV a) (strV b) = Q := ⟨_, rfl⟩
      obtain ⟨R, hR⟩ : ∃ R, divR ok (strV a) (strV b) = R := ⟨_, rfl⟩
      obtain ⟨E, hE⟩ : ∃ E, divE ok (strV b) = E := ⟨_, rfl⟩
      obtain ⟨G, hG⟩ : ∃ G, apiS ok ((Int.gcd (strV a) (strV b) : Nat) : Int) = G := ⟨_, rfl⟩
      obtain ⟨F, hF⟩ : ∃ F, apiE ok ((Int.gcd (strV a) (strV b) : Nat) : Int) = F := ⟨_, rfl⟩
      obtain ⟨K, hK⟩ : ∃ K, formE (allN [a, b]) = K := ⟨_, rfl⟩
      unfold DivIs at hdv
      rw [hQ, hR, hE] at hdv
      unfold ApiIs at hgc
      rw [hG, hF] at hgc
      have HDV := Lib.hid hdv
      have HGC := Lib.hid hgc
      have HV := Lib.hid (And.intro hok (And.intro hQ (And.intro hR (And.intro hE (And.intro hG (And.intro hF hK))))))
      clear hdv hgc hQ hR hE hG hF hok e0 e1
      go_wp2_with fail
      refine (HDV.out _ (HT.out.below hb)).mono ?_
      rintro e w1 ⟨rfl, hb1'⟩
      have hb1 := hb.trans (hb1'.mono hb.size)
      go_wp2_with fail
      refine (HGC.out _ (HT.out.below hb1)).mono ?_
      rintro e w2 ⟨rfl, hb2'⟩
      have hb2 := hb1.trans (hb2'.mono hb1.size)
      go_wp2_with fail
      refine (form_any _ 2 2 [a, b] _ rfl (by omega) (two_list w2 a b 9) (by intro s hs; simp at hs; rcases hs with rfl | rfl <;> omega)).mono ?_
      rintro e w3 ⟨rfl, hw3⟩
      rw [hK]
      clear hK
      subst hw3
      have hb3 := hb2.alloc hb2.size (.cells #[.string ⟨a.toArray⟩, .string ⟨b.toArray⟩] 9)
      generalize hwg : w2.alloc (.cells #[.string ⟨a.toArray⟩, .string ⟨b.toArray⟩] 9) = w3 at *
      clear hwg
      go_upto_if 44 with fail
      go_cut [8, 9, 10, 11, 12, 13] from 26 to 111 (fun _ _ _ _ _ _ wx => Below w.heap.size w wx)
      case first =>
        cases ok
        · obtain ⟨hok, rfl, rfl, rfl, rfl, rfl, hK⟩ := HV.out
          have hK6 : K = 6 := by rw [← hK]; unfold formE allN; simp only [List.all_cons, List.all_nil, Bool.and_true]; rw [hok]; rfl
          subst hK6
          clear hok hK HV HDV HGC
          unfold divQ divR divE apiS apiE
          go_wp2_with fail
          go_meet
          case rel => exact hb3
        · obtain ⟨hok, hQ, hR, hE, hG, hF, hK⟩ := HV.out
          have hab : numB a = true ∧ numB b = true := by simpa using hok
          have hK0 : K = 0 := by rw [← hK]; unfold formE allN; simp only [List.all_cons, List.all_nil, Bool.and_true]; rw [hok]; rfl
          subst hK0
          have HPA := Lib.hid (num_plain hab.1)
          have HPB := Lib.hid (num_plain hab.2)
          have fg : longB ((Int.gcd (strV a) (strV b) : Nat) : Int) = false := fits_gcd (num_fits hab.1) (num_fits hab.2)
          obtain ⟨g1, g2⟩ := out_plain fg
          have hG2 : Lib.itoa ((Int.gcd (strV a) (strV b) : Nat) : Int) = G := by rw [← hG, ← g1]; rfl
          have hF2 : F = 0 := by rw [← hF, ← g2]; rfl
          subst hF2
          clear g1 g2 fg hG hF hok hK HV HDV HGC hab
          have HG2 := Lib.hid hG2
          clear hG2
          go_wp2_with fail
          refine (rparse_any a _ (by omega) HPA.out).mono ?_
          rintro e w6 ⟨n6, p6, l6, c6, x6, rfl, hz6, hl6, hb6⟩
          go_wp2_with fail
          refine (rparse_any b _ (by omega) HPB.out).mono ?_
          rintro e w7 ⟨n7, p7, l7, c7, x7, rfl, hz7, hl7, hb7⟩
          have hb6' := hb3.trans (hb6.mono hb3.size)
          have hb7' := hb6'.trans (hb7.mono hb6'.size)
          obtain ⟨w8, hw8⟩ : ∃ w8, (w7.alloc (.cells #[.bool n6, .slice p6 l6 c6] 31)).alloc (.cells #[.bool n7, .slice p7 l7 c7] 31) = w8 := ⟨_, rfl⟩
          have hb78 : Below w7.heap.size w7 w8 := by rw [← hw8]; exact ((Below.refl _ _).alloc (Nat.le_refl _) _).alloc (by simp) _
          have k0 : Blk w8 w7.heap.size #[.bool n6, .slice p6 l6 c6] 31 := by rw [← hw8]; exact (Blk.new _ _ _).alloc _
          have k1 : Blk w8 (w7.heap.size + 1) #[.bool n7, .slice p7 l7 c7] 31 := by rw [← hw8]; exact Blk.new' _ _ _ (by simp)
          have hb8' := hb7'.trans (hb78.mono hb7'.size)
          have hz6 := (hz6.below hb7).below hb78
          have hz7 := hz7.below hb78
          have f0 := k0.cell (i := 0) rfl
          have f1 := k0.cell (i := 1) rfl
          have f2 := k1.cell (i := 0) rfl
          have f3 := k1.cell (i := 1) rfl
          clear hb6 hb7 hb6' hb7' hb78
          go_wp2_with fail
          refine (rgcd_any _ _ _ _ _ _ _ _ x6 x7 _ _ _ (by omega) (by omega) hz6 hz7).mono ?_
          rintro e w9 ⟨n9, p9, l9, c9, x9, rfl, hz9, hl9, hb9⟩
          have hb9' := hb8'.trans (hb9.mono hb8'.size)
          go_wp2_with fail
          refine (text_any _ _ _ _ x9 _ _ (by omega) hz9).mono ?_
          rintro e w10 ⟨rfl, hb10⟩
          have hb10' := hb9'.trans (hb10.mono hb9'.size)
          have hb810 := hb9.trans (hb10.mono hb9.size)
          rw [HG2.out]
          have k0 := k0.kept hb810
          have k1 := k1.kept hb810
          have hz6 := hz6.below hb810
          have hz7 := hz7.below hb810
          have f0 := k0.cell (i := 0) rfl
          have f1 := k0.cell (i := 1) rfl
          have f2 := k1.cell (i := 0) rfl
          have f3 := k1.cell (i := 1) rfl
          clear hw8 hb9 hb10 hz9 hb810
          go_wp2_with fail
          refine (rsign_any _ _ _ _ x7 _ _ (by omega) hz7).mono ?_
          rintro e w11 ⟨rfl, hb11⟩
          have hb11' := hb10'.trans (hb11.mono hb10'.size)
          have k0 := k0.kept hb11
          have k1 := k1.kept hb11
          have hz6 := hz6.below hb11
          have hz7 := hz7.below hb11
          have f0 := k0.cell (i := 0) rfl
          have f1 := k0.cell (i := 1) rfl
          have f2 := k1.cell (i := 0) rfl
          have f3 := k1.cell (i := 1) rfl
          clear hb11
          by_cases h0 : strV b = 0
          · have hs : sgnZ (strV b) = 0 := by rw [h0]; rfl
            have hE5 : E = 5 := by rw [← hE, h0]; rfl
            have hQn : Q = [] := by rw [← hQ, h0]; unfold divQ; simp
            have hRn : R = [] := by rw [← hR, h0]; unfold divR; simp
            subst hE5 hQn hRn
            rw [hs]
            clear hs h0 hE hQ hR hz6 hz7
            go_wp2_with fail
            go_meet
            case rel => exact hb11'
          · have hs : ¬ sgnZ (strV b) = 0 := by unfold sgnZ; split <;> (try split) <;> omega
            have hE0 : E = 0 := by rw [← hE]; unfold divE; simp [h0]
            have hQn : Lib.itoa (strV a / strV b) = Q := by rw [← hQ]; unfold divQ; simp [h0]
            have hRn : Lib.itoa (strV a % strV b) = R := by rw [← hR]; unfold divR; simp [h0]
            subst hE0
            have HQR := Lib.hid (And.intro hQn hRn)
            clear hE hQ hR hQn hRn
            go_wp2_with fail
            refine (rdiv_any _ _ _ _ _ _ _ _ x6 x7 _ _ _ (by omega) (by omega) hz6 hz7 h0).mono ?_
            rintro e w12 ⟨n12, p12, l12, c12, x12, n13, p13, l13, c13, x13, rfl, hz12, hz13, hb12⟩
            have hl12 : l12 ≤ l6 := hz12.len_le (Nat.lt_of_le_of_lt (Int.natAbs_ediv_le_natAbs _ _) hz6.lt)
            have hl13 : l13 ≤ l7 := hz13.len_le (emod_small h0 hz7.lt)
            obtain ⟨w13, hw13⟩ : ∃ w13, (w12.alloc (.cells #[.bool n12, .slice p12 l12 c12] 31)).alloc (.cells #[.bool n13, .slice p13 l13 c13] 31) = w13 := ⟨_, rfl⟩
            have hb1213 : Below w12.heap.size w12 w13 := by rw [← hw13]; exact ((Below.refl _ _).alloc (Nat.le_refl _) _).alloc (by simp) _
            have q0 : Blk w13 w12.heap.size #[.bool n12, .slice p12 l12 c12] 31 := by rw [← hw13]; exact (Blk.new _ _ _).alloc _
            have q1 : Blk w13 (w12.heap.size + 1) #[.bool n13, .slice p13 l13 c13] 31 := by rw [← hw13]; exact Blk.new' _ _ _ (by simp)
            have hb12' := hb11'.trans (hb12.mono hb11'.size)
            have hb13' := hb12'.trans (hb1213.mono hb12'.size)
            have hz12 := hz12.below hb1213
            have hz13 := hz13.below hb1213
            have e0 := q0.cell (i := 0) rfl
            have e1 := q0.cell (i := 1) rfl
            have e2 := q1.cell (i := 0) rfl
            have e3 := q1.cell (i := 1) rfl
            clear hz6 hz7 h0 hb12 hb1213
            go_wp2_with fail
            refine (text_any _ _ _ _ x12 _ _ (by omega) hz12).mono ?_
            rintro e w14 ⟨rfl, hb14⟩
            have hb14' := hb13'.trans (hb14.mono hb13'.size)
            have q1 := q1.kept hb14
            have hz13 := hz13.below hb14
            have e2 := q1.cell (i := 0) rfl
            have e3 := q1.cell (i := 1) rfl
            rw [HQR.out.1]
            clear hb14
            go_wp2_with fail
            refine (text_any _ _ _ _ x13 _ _ (by omega) hz13).mono ?_
            rintro e w15 ⟨rfl, hb15⟩
            have hb15' := hb14'.trans (hb15.mono hb14'.size)
            rw [HQR.out.2]
            clear hb15
            go_wp2_with fail
            go_meet
            case rel => exact hb15'
      case rest =>
        go_wp2_with fail
        refine (HCX.out _).mono ?_
        rintro e w4 ⟨⟨la, ca, rfl⟩, hb4'⟩
        have hb4 := hcut.trans (hb4'.mono hcut.size)
        go_wp2_with fail
        refine (HCY.out _).mono ?_
        rintro e w5 ⟨⟨lb, cb, rfl⟩, hb5'⟩
        have hb5 := hb4.trans (hb5'.mono hb4.size)
        obtain ⟨c1, c2, c3⟩ := ca
        obtain ⟨d1, d2, d3⟩ := cb
        have HN := Lib.hid (And.intro c1 d1)
        clear c1 d1 hb4' hb5' hcut
        by_cases h1 : j = 1
        · subst h1
          go_wp2_with fail
          refine (rparse_any la _ (by omega) (num_plain HN.out.1)).mono ?_
          rintro e w6 ⟨n6, p6, l6, c6, x6, rfl, hz6, hl6, hb6⟩
          go_wp2_with fail
          refine (rparse_any lb _ (by omega) (num_plain HN.out.2)).mono ?_
          rintro e w7 ⟨n7, p7, l7, c7, x7, rfl, hz7, hl7, hb7⟩
          go_wp2_with fail
          refine (rmul_any _ _ _ _ _ _ _ _ x6 x7 _ _ _ (by omega) (by omega) (hz6.below hb7) hz7).mono ?_
          rintro e w8 ⟨n8, p8, l8, c8, x8, rfl, hz8, hl8, hb8⟩
          go_wp2_with fail
          refine (text_any _ _ _ _ x8 _ _ (by omega) hz8).mono ?_
          rintro e w9 ⟨rfl, hb9⟩
          have hb6' := hb5.trans (hb6.mono hb5.size)
          have hb7' := hb6'.trans (hb7.mono hb6'.size)
          have hb8' := hb7'.trans (hb8.mono hb7'.size)
          have hb9' := hb8'.trans (hb9.mono hb8'.size)
          have hlen : (Lib.itoa (strV la * strV lb)).length ≤ 200 := by
            have h1 := strV_bound HN.out.1 c3
            have h2 := strV_bound HN.out.2 d3
            have h3 : (strV la * strV lb).natAbs < 10 ^ (81 + 51) := by
              rw [Int.natAbs_mul, Nat.pow_add]
              exact Nat.mul_lt_mul_of_lt_of_lt h1 h2
            have := itoa_len (by omega) h3
            omega
          go_wp2_with fail
          go_roundg (3 - (1 + 1))
          case measure => rw [HGK.out]; omega
          case rel => exact ⟨1 + 1, _, lb, by omega, rfl, by go_num, rfl, rfl, hlen, by omega, hb9'⟩
        · have h1i : ¬ (j : Int) = 1 := by omega
          go_wp2_with fail
          go_roundg (3 - (j + 1))
          case measure => rw [HGK.out]; omega
          case rel => exact ⟨j + 1, la, lb, by omega, rfl, by go_num, rfl, rfl, by omega, by omega, hb5⟩
    · have hji : ¬ ((j : Int) < 3) := by omega
      go_wp2_with fail
      refine (awake_any _ (HT.out.below hb) (HE.out.below hb)).mono ?_
      rintro e w6 ⟨rfl, hb6'⟩
      have hb6 := hb.trans (hb6'.mono hb.size)
      go_wp2_with fail
      go_ret
      exact ⟨rfl, hb6⟩

end Go.Proofs.YtimcbmgmngkagaaGreatDoor

namespace Go.Proofs.YtimcbmgmngkagaaGreatDoor
open Go.ChangeShapes Go.WideShapes Go.RowKit

def laid5 : List (String × DataW Unit) := [("math/bits.deBruijn32tab", Rows.laid_math_bits_deBruijn32tab), ("math/bits.deBruijn64tab", Rows.laid_math_bits_deBruijn64tab), ("internal/strconv.uint64pow10", Rows.laid_internal_strconv_uint64pow10), ("strconv.ErrRange", Rows.laid_strconv_ErrRange), ("strconv.ErrSyntax", Rows.laid_strconv_ErrSyntax)]

theorem own : ownKnob Tryz.prog.godebug = none := by kernel_rfl
theorem gPow : Tryz.prog.globalNamed "internal/strconv.uint64pow10" = some 0 := by kernel_rfl
theorem tPow : (Tryz.prog.globals[(0 : Nat)]?).map (·.type) = some 236 := by kernel_rfl
theorem cPow : Tryz.prog.cellsOf 236 = 20 := by kernel_rfl
theorem cU64 : Tryz.prog.cellsOf 117 = 1 := by kernel_rfl
theorem gErr : Tryz.prog.globalNamed "strconv.ErrRange" = some 2 := by kernel_rfl
theorem tErr : (Tryz.prog.globals[(2 : Nat)]?).map (·.type) = some 142 := by kernel_rfl
theorem cErrS : Tryz.prog.cellsOf 255 = 1 := by kernel_rfl
theorem cStr : Tryz.prog.cellsOf 9 = 1 := by kernel_rfl
theorem rowErr (u : TypeId) (h : Tryz.prog.typeName? 3 u = some "*errors.errorString") : u = 253 :=
  typeName_ptr_named (nm := "errors.errorString") (by kernel_rfl) (by kernel_rfl) (by decide) u h
theorem powData : Rows.laid_internal_strconv_uint64pow10 (H := Unit) = Lib.tabData .u64 Lib.pow10Tab := by rfl

theorem door_met (os : Os) (args : Array Value) : laidMetH Tryz.prog laid5 ((World.doorLaid Tryz.prog 62 os).forCall (fun _ _ => 0) ⟨#[], args, []⟩).memory :=
  laidMetH_of_parts3 (fuel := 8) (laidMet_of_run' 8 (by kernel_rfl) (by kernel_rfl)) (by kernel_rfl) (by kernel_rfl)

theorem of_laid {W : World} (h : laidMetH Tryz.prog laid5 W) : Tab W ∧ ErrLaid W := by
  rw [MakeChecks.laidMetH_plain _ _ _ (by kernel_rfl)] at h
  have h2 := h.tail.tail
  rw [powData] at h2
  refine ⟨Lib.tabIs_of_head gPow tPow Tryz.underlying236 Tryz.underlying117 cU64 cPow h2, ?_⟩
  have h3 := h.tail.tail.tail
  obtain ⟨a0, s0, hv0, _⟩ := laid_sentinel h3 gErr tErr Tryz.underlying142 rowErr Tryz.underlying253 Tryz.underlying255 rfl rfl Tryz.underlying9 cErrS cStr
  exact ⟨_, by simpa using World.var?_cell gErr hv0 0, .inr ⟨_, _, rfl⟩⟩

end Go.Proofs.YtimcbmgmngkagaaGreatDoor

namespace Go.Proofs.YtimcbmgmngkagaaGreatDoor
open Go Go.ChangeShapes Go.WideShapes Go.ChangeAt Go.WideMaps Go.WideElems Go.RowKit Go.ChangeMaps

set_option maxRecDepth 100000 in
theorem wideQuotients_lifted (os : Os) (started : os.Started) (H : Type) (enc : TypeId × Value → H) :
    ReturnsInHanded {} Tryz.checked os 3 .any (fun w args => (Rows.wideQuotientsSpec.pre enc Tryz.prog Tryz.f3 [] false w args ∧ laidMetH Tryz.prog laid5 w) ∧ sizedMet enc Tryz.prog Tryz.f3 (OpenSpec.ofChange Rows.wideQuotientsSpec) false w args)
      (Rows.wideQuotientsSpec.post enc Tryz.prog Tryz.f3 false true false false) := by
  refine returnsInHanded_of_change_and (C := Tryz.checked) (X := fun w _ => laidMetH Tryz.prog laid5 w) (fun _ _ _ hh h => h.of_heap hh) own started (by kernel_rfl) Tryz.func3
    (ChangeSpec.witness_shaped (enc := enc) (C := Tryz.checked) (os := os) (X := fun w _ => laidMetH Tryz.prog laid5 w) false (World.doorLaid Tryz.prog 62 os) #[.string ⟨#[]⟩, .string ⟨#[]⟩] 8 rfl (World.shaped_of_RefB (by kernel_rfl) (by kernel_rfl)) (by kernel_rfl) (by kernel_rfl) (by kernel_rfl) (door_met os _)) ?_
  intro W base args ds gs before hval0 hW _ _ hL _
  have hval : ∀ (j : Nat) t v, Tryz.f3.params[j]? = some t → args[j]? = some v → Value.okWide Tryz.prog W .any base t v := hval0
  have hW' := hW
  obtain ⟨p, q, hA0, hV, rfl, hfz, hnd⟩ := hW
  have hA : DataW.TrodAll enc Tryz.prog W 0 (fun _ => true) true Tryz.f3.params.toList args.toList ds p := hA0
  rw [Tryz.params3] at hA hval
  obtain ⟨v0, v1, d0, d1, p0, p1, rfl, rfl, rfl, h0, h1⟩ := trodAll_two hA
  obtain ⟨rfl, rfl⟩ := trodVars_none hV
  obtain ⟨s0, rfl, rfl, rfl, hs0⟩ := open_string Tryz.underlying9 (hval 0 9 v0 rfl rfl) h0
  obtain ⟨s1, rfl, rfl, rfl, hs1⟩ := open_string Tryz.underlying9 (hval 1 9 v1 rfl rfl) h1
  obtain ⟨htab, herr⟩ := of_laid hL
  simp only [List.append_nil] at hW'
  have walk := wideQuotients_walk s0.data.toList s1.data.toList W (by simpa [maxLen] using hs0) (by simpa [maxLen] using hs1) htab herr
  rw [← bytes_list s0, ← bytes_list s1] at walk
  refine walk.mono fun e W' ⟨he, hb⟩ => ?_
  subst he
  refine ⟨_, rfl, _, _, _, [], [], [], hW', ?_, ?_, rfl, hb.frame _, fun h => by cases h⟩
  · exact trodAll_mk1 (shut_bool Tryz.underlying4 true)
  · exact trodAll_mk2 (shut_string Tryz.underlying9 hs0) (shut_string Tryz.underlying9 hs1)

end Go.Proofs.YtimcbmgmngkagaaGreatDoor

namespace Go.Proofs.YtimcbmgmngkagaaGreatDoor
open Go Go.ChangeShapes Go.WideShapes Go.ChangeAt Go.WideMaps Go.WideElems Go.RowKit Go.ChangeMaps

theorem wideQuotients_holds : Rows.WideQuotientsSaid :=
  OpenClaim.holds_of_wide 3 Tryz.f3 rfl rfl rfl rfl rfl rfl rfl ⟨rfl, rfl, rfl, rfl, rfl⟩ rfl rfl rfl rfl rfl (by kernel_rfl) Tryz.func3 (by kernel_rfl)
    (of_decide_eq_true (by kernel_rfl)) (by unfold Func.isWrapper; first | (rw [if_pos (by decide +kernel)]; kernel_rfl) | (rw [if_neg (by decide +kernel)]; exact ⟨rfl, rfl⟩))
    (fun os started H enc _ => wideQuotients_lifted os started H enc)

end Go.Proofs.YtimcbmgmngkagaaGreatDoor

namespace Go.Proofs.YtimcbmgmngkagaaGreatDoor
open Go Go.ChangeShapes Go.WideShapes Go.ChangeAt Go.WideMaps Go.WideElems Go.RowKit Go.ChangeMaps

theorem wideQuotients_card : Rows.WideQuotientsCardSaid :=
  Claim7.holds_tied_plain_at .later [] [.data, .data, .data, .sentinel, .sentinel] true (true, Rows.wideQuotientsCard.stood.harness.2) true
    wideQuotients_holds (fun _ h => by cases h) (by kernel_rfl) (fun _ h => by cases h) wideQuotients_row_tie rfl ⟨rfl, rfl⟩ (by kernel_rfl) rfl
    (fun f fn hf hfn => by
      obtain rfl : f = 3 := Option.some.inj ((show Tryz.prog.funcNamed "spokeshave/spokeshavelaw01.WideQuotients" = some 3 by kernel_rfl).symm.trans hf) |>.symm
      obtain rfl : fn = Tryz.f3 := (Option.some.inj (Tryz.func3.symm.trans hfn)).symm
      exact ⟨by kernel_rfl, fun j t ht => by
        rw [Tryz.params3] at ht
        have hm : t ∈ [9, 9] := by simpa using Array.mem_of_getElem? ht
        have hall : ([9, 9].all fun u => !Tryz.prog.wantsStandIn u) = true := by kernel_rfl
        exact (show Tryz.prog.wantsStandIn t = false by simpa using List.all_eq_true.1 hall t hm)⟩)
    (by kernel_rfl)
#print axioms wideQuotients_card
end Go.Proofs.YtimcbmgmngkagaaGreatDoor
