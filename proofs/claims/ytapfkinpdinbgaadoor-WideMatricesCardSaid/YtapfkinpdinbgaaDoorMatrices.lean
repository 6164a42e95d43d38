/-
  WideMatrices, its walk.
-/
import Derived.Test.YtapfkinpdinbgaaDoorSquareW
import Derived.Test.YtapfkinpdinbgaaDoorMatS
import Derived.Test.YtapfkinpdinbgaaDoorAwake
import Derived.Deep.RegionHeld3
import Derived.Deep.CutBlock
namespace Go.Proofs.YtapfkinpdinbgaaDoor
open Go.RowKit

theorem grown_cell (w : World) (g j : Nat) (u : Value) : w.grownBy (w.setCell ⟨g, j, none⟩ u) (some g) :=
  ⟨by simp [World.setCell], by simp [World.setCell], by simp [World.setCell], by simp, fun k _ hk => Below.heap_setCell _ _ _ _ (fun e => hk (by rw [e]))⟩

theorem OwnQ.setApart {w : World} {base : Nat} {e e' : TypeId} {size : Nat} {v : Value} {n : Nat} {xs : List Value} {R : Value → Prop} (h : OwnQ w base e size v n xs R) (hne : e ≠ e') {g j : Nat} {cs : Array Value} (hg : w.heap[g]? = some (.cells cs e' (0, 0))) (u : Value) : OwnQ (w.setCell ⟨g, j, none⟩ u) base e size v n xs R := by
  have ha := own_type h.1 hne hg
  refine ⟨h.1.kept (grown_cell w g j u) (Or.inr fun e => ha e.symm), fun g' cs' hg' hc => ?_⟩
  have hgg : g' ≠ g := fun e => ha (by rw [hg', e])
  rw [Below.heap_setCell _ _ _ _ hgg] at hc
  exact h.2 g' cs' hg' hc

theorem pair_ne {gs : List Nat} (h : gs.Pairwise (· < ·)) {i r g g' : Nat} (hi : gs[i]? = some g) (hr : gs[r]? = some g') (hne : r ≠ i) : g' ≠ g := by
  obtain ⟨hil, ei⟩ := List.getElem?_eq_some_iff.1 hi
  obtain ⟨hrl, er⟩ := List.getElem?_eq_some_iff.1 hr
  rw [List.pairwise_iff_getElem] at h
  rcases Nat.lt_or_gt_of_ne hne with hlt | hlt
  · have := h r i hrl hil hlt; omega
  · have := h i r hil hrl hlt; omega

theorem GrSq.spot {w : World} {base : Nat} {p : Option Addr} {n c : Nat} {rows : List (List (List UInt8))} (h : GrSq w base (.slice p n c) rows) {i : Nat} {row : List (List UInt8)} (hi : rows[i]? = some row) {j : Nat} {s0 : List UInt8} (hj : row[j]? = some s0) :
    ∃ b g cc, p = some ⟨b, 0, none⟩ ∧ w.cell? ⟨b, i, none⟩ = some (.slice (some ⟨g, 0, none⟩) row.length cc) ∧ w.cell? ⟨g, j, none⟩ = some (.string ⟨s0.toArray⟩) ∧ w.frozen? ⟨g, j, none⟩ = false ∧ base ≤ g ∧ g < w.heap.size ∧ b < w.heap.size ∧
      ∀ s : List UInt8, GrSq (w.setCell ⟨g, j, none⟩ (.string ⟨s.toArray⟩)) base (.slice p n c) (rows.set i (row.set j s)) := by
  obtain ⟨vs, gs, h1, h2, h3, h4, h5⟩ := h
  obtain ⟨p', c', e, _, hcell⟩ := own_cells h1.1
  cases e
  obtain ⟨g, c2, cs, e1, e2, e3, e4⟩ := h5 i row hi
  obtain ⟨b, hp, hbl, hcc⟩ := hcell i _ e2
  have hgm := h4 g (List.mem_of_getElem? e1)
  have hjl : j < cs.size := (Array.getElem?_eq_some_iff.1 (e4 j s0 hj)).1
  have hjr : j < row.length := (List.getElem?_eq_some_iff.1 hj).1
  refine ⟨b, g, c2, hp, hcc, by simpa [World.cell?, e3] using e4 j s0 hj, by simp [World.frozen?, e3], hgm.1, hgm.2, hbl, fun s => ?_⟩
  refine ⟨vs, gs, ?_, by rw [List.length_set]; exact h2, h3, fun x hx => by simpa using h4 x hx, fun r row' hr => ?_⟩
  · have := h1.setApart (e' := 9) (by decide) e3 (j := j) (.string ⟨s.toArray⟩)
    rw [List.length_set]; exact this
  · rw [List.getElem?_set] at hr
    by_cases e : i = r
    · subst e
      rw [if_pos rfl, if_pos (List.getElem?_eq_some_iff.1 hi).1] at hr
      cases hr
      refine ⟨g, c2, cs.setIfInBounds j (.string ⟨s.toArray⟩), e1, by rw [List.length_set]; exact e2, by rw [Lib.heap_setCell_same e3], fun k t hk => ?_⟩
      rw [Array.getElem?_setIfInBounds]
      rw [List.getElem?_set] at hk
      by_cases ek : j = k
      · subst ek
        rw [if_pos rfl, if_pos hjr] at hk
        cases hk
        rw [if_pos rfl, if_pos hjl]
      · rw [if_neg ek] at hk ⊢
        exact e4 k t hk
    · rw [if_neg e] at hr
      obtain ⟨g', c3, cs', f1, f2, f3, f4⟩ := h5 r row' hr
      have hgg := pair_ne h3 e1 f1 (fun e' => e e'.symm)
      exact ⟨g', c3, cs', f1, f2, by rw [Below.heap_setCell _ _ _ _ hgg]; exact f3, f4⟩

end Go.Proofs.YtapfkinpdinbgaaDoor

namespace Go.Proofs.YtapfkinpdinbgaaDoor
open Go.RowKit

theorem GrS.form2 {w : World} {base : Nat} {v : Value} {ls : List (List UInt8)} (h : GrS w base v ls) : ∃ p m c, v = .slice p m c ∧ Hid (ls.length = m) := h.form'
theorem wrapU (y : Int) : IntKind.u64.wrap y = y % 18446744073709551616 := rfl
theorem sizeN (y : Int) : ∃ n : Nat, 2 ≤ n ∧ n ≤ 4 ∧ wrap64 (2 + wrap64 ((IntKind.u64.wrap y).tmod 3)) = (n : Int) := by
  rw [wrapU, Int.tmod_eq_emod_of_nonneg (by omega)]
  refine ⟨(2 + y % 18446744073709551616 % 3).toNat, by omega, by omega, ?_⟩
  unfold wrap64
  omega

theorem idxI (y : Int) {n : Nat} (h2 : 2 ≤ n) (h4 : n ≤ 4) : ∃ i : Nat, i < n ∧ wrap64 ((IntKind.u64.wrap y).tmod (n : Int)) = (i : Int) := by
  rw [wrapU, Int.tmod_eq_emod_of_nonneg (by omega)]
  have h0 := Int.emod_nonneg (y % 18446744073709551616) (b := (n : Int)) (by omega)
  have h1 := Int.emod_lt_of_pos (y % 18446744073709551616) (b := (n : Int)) (by omega)
  generalize y % 18446744073709551616 % (n : Int) = m at h0 h1
  refine ⟨m.toNat, by omega, ?_⟩
  unfold wrap64
  omega
theorem idxK (y : Int) {n i : Nat} (h2 : 2 ≤ n) (h4 : n ≤ 4) (hi : i < n) : ∃ k : Nat, k < n ∧ i ≠ k ∧ (wrap64 (wrap64 ((i : Int) + 1) + wrap64 ((IntKind.u64.wrap y).tmod ((n : Int) - 1)))).tmod (n : Int) = (k : Int) := by
  rw [wrapU, Int.tmod_eq_emod_of_nonneg (a := y % 18446744073709551616) (by omega)]
  have h0 := Int.emod_nonneg (y % 18446744073709551616) (b := (n : Int) - 1) (by omega)
  have h1 := Int.emod_lt_of_pos (y % 18446744073709551616) (b := (n : Int) - 1) (by omega)
  generalize y % 18446744073709551616 % ((n : Int) - 1) = m at h0 h1
  have e1 : wrap64 (wrap64 ((i : Int) + 1) + wrap64 m) = (i : Int) + 1 + m := by unfold wrap64; omega
  rw [e1, Int.tmod_eq_emod_of_nonneg (by omega)]
  have h3 : n = 2 ∨ n = 3 ∨ n = 4 := by omega
  rcases h3 with rfl | rfl | rfl
  · exact ⟨(((i : Int) + 1 + m) % 2).toNat, by omega, by omega, by omega⟩
  · exact ⟨(((i : Int) + 1 + m) % 3).toNat, by omega, by omega, by omega⟩
  · exact ⟨(((i : Int) + 1 + m) % 4).toNat, by omega, by omega, by omega⟩

set_option maxRecDepth 100000 in
set_option maxHeartbeats 8000000 in
theorem wideMatrices_walk (a : Option Addr) (n0 c0 : Nat) (rows0 : List (List (List UInt8))) (a1 : Option Addr) (n1 c1 : Nat) (rows1 : List (List (List UInt8))) (y0 y1 y2 : Int) (w : World) (hl : rows0.length = n0) (hn0 : n0 ≤ 9223372036854775807) (hr : RdLL w a rows0) (hs : ∀ row ∈ rows0, row.length ≤ 9223372036854775807 ∧ ∀ s ∈ row, s.length ≤ 9223372036854775807)
    (hl1 : rows1.length = n1) (hn1 : n1 ≤ 9223372036854775807) (hr1 : RdLL w a1 rows1) (hs1 : ∀ row ∈ rows1, row.length ≤ 9223372036854775807 ∧ ∀ s ∈ row, s.length ≤ 9223372036854775807) (htab : Tab w) (herr : ErrLaid w) :
    Calls Tryd.prog 10 #[.slice a n0 c0, .slice a1 n1 c1, .agg #[.int .i64 y0, .int .i64 y1, .int .i64 y2]] w fun e w' => e = .returned (.bool true) ∧ Below w.heap.size w w' := by
  have HT := Lib.hid htab
  have HE := Lib.hid herr
  have HL := Lib.hid hl
  have HR := Lib.hid hr
  have HS := Lib.hid hs
  have HL1 := Lib.hid hl1
  have HR1 := Lib.hid hr1
  have HS1 := Lib.hid hs1
  clear htab herr hl hr hs hl1 hr1 hs1
  go_enter Tryd.func10, Tryd.ntmps10
  go_wp2_with fail
  obtain ⟨n, hn2, hn4, hnE⟩ := sizeN y0
  rw [hnE]
  have hbA : Below w.heap.size w (w.alloc (.cells #[.int .i64 y0, .int .i64 y1, .int .i64 y2] 65)) := (Below.refl _ w).alloc (Nat.le_refl _) _
  have g1 : (w.alloc (.cells #[.int .i64 y0, .int .i64 y1, .int .i64 y2] 65)).cell? ⟨w.heap.size, 1, none⟩ = some (.int .i64 y1) := by simp [go_sem]
  have g2 : (w.alloc (.cells #[.int .i64 y0, .int .i64 y1, .int .i64 y2] 65)).cell? ⟨w.heap.size, 2, none⟩ = some (.int .i64 y2) := by simp [go_sem]
  have hsA : w.heap.size < (w.alloc (.cells #[.int .i64 y0, .int .i64 y1, .int .i64 y2] 65)).heap.size := by simp
  generalize hWA : (w.alloc (.cells #[.int .i64 y0, .int .i64 y1, .int .i64 y2] 65)) = wA at *
  clear hWA hnE
  refine (square_any a n0 c0 rows0 n wA HL.out hn0 (by omega) (HR.out.below hbA) HS.out).mono ?_
  rintro e w1 ⟨pX, cX, rfl, hX, hb1'⟩
  have hb1 := hbA.trans (hb1'.mono hbA.size)
  have g1 := (hb1'.cell (p := ⟨w.heap.size, 1, none⟩) hsA).trans g1
  have g2 := (hb1'.cell (p := ⟨w.heap.size, 2, none⟩) hsA).trans g2
  have hs1w := Nat.lt_of_lt_of_le hsA hb1'.size
  go_wp2_with fail
  refine (square_any a1 n1 c1 rows1 n w1 HL1.out hn1 (by omega) (HR1.out.below hb1) HS1.out).mono ?_
  rintro e w2 ⟨pY, cY, rfl, hY, hb2'⟩
  have hb2 := hb1.trans (hb2'.mono hb1.size)
  have g1 := (hb2'.cell (p := ⟨w.heap.size, 1, none⟩) hs1w).trans g1
  have g2 := (hb2'.cell (p := ⟨w.heap.size, 2, none⟩) hs1w).trans g2
  have HX := Lib.hid (hX.rd.below hb2')
  have HY := Lib.hid hY.rd
  obtain ⟨X, hXe⟩ : ∃ X, sqF rows0 n n = X := ⟨_, rfl⟩
  obtain ⟨Y, hYe⟩ : ∃ Y, sqF rows1 n n = Y := ⟨_, rfl⟩
  have hcX : CSq n 13 X := by
    rw [← hXe]
    obtain ⟨_, _, h3⟩ := sqRows_ok rows0 n (by omega)
    exact ⟨sqF_len _ _ _, fun r hr => ⟨(h3 r hr).1, fun s hs => ⟨((h3 r hr).2 s hs).1, ((h3 r hr).2 s hs).2.2⟩⟩⟩
  have hcY : CSq n 13 Y := by
    rw [← hYe]
    obtain ⟨_, _, h3⟩ := sqRows_ok rows1 n (by omega)
    exact ⟨sqF_len _ _ _, fun r hr => ⟨(h3 r hr).1, fun s hs => ⟨((h3 r hr).2 s hs).1, ((h3 r hr).2 s hs).2.2⟩⟩⟩
  rw [hXe] at HX
  rw [hYe] at HY
  have HXE := Lib.hid hXe
  have HCX := Lib.hid hcX
  have HCY := Lib.hid hcY
  clear hX hY hXe hYe hcX hcY
  go_wp2_with fail
  obtain ⟨i, hi, hiE⟩ := idxI y1 hn2 hn4
  rw [hiE]
  obtain ⟨k, hk, hik, hkE⟩ := idxK y2 hn2 hn4 hi
  rw [hkE]
  clear hiE hkE g1 g2 hs1w hsA
  obtain ⟨dX, hdX⟩ : ∃ d, detR n (valRows X) = d := ⟨_, rfl⟩
  obtain ⟨dY, hdY⟩ : ∃ d, detR n (valRows Y) = d := ⟨_, rfl⟩
  have hbX := HCX.out.small hn4
  have hbY := HCY.out.small hn4
  rw [hdX] at hbX
  rw [hdY] at hbY
  obtain ⟨iX1, iX2, iX3⟩ := itoa_ok (k := 57) (by decide) hbX (by decide)
  obtain ⟨iY1, iY2, iY3⟩ := itoa_ok (k := 57) (by decide) hbY (by decide)
  have HDX := Lib.hid hdX
  have HDY := Lib.hid hdY
  have HMUL : Hid (∀ W, Tab W → Calls Tryd.prog 24 #[.string ⟨(Lib.itoa dX).toArray⟩, .string ⟨(Lib.itoa dY).toArray⟩] W (NumOutS W (dX * dY))) := by
    intro W hW
    have := mulS (Lib.itoa dX) (Lib.itoa dY) 60 W iX1 iY1 (by omega) (by omega) (by decide) (by decide) hW
    rw [iX2, iY2] at this
    exact this
  have HSUB : Hid (∀ W, Tab W → Calls Tryd.prog 23 #[.string ⟨#[48]⟩, .string ⟨(Lib.itoa dX).toArray⟩] W (NumOutS W (-dX))) := by
    intro W hW
    have := subS [48] (Lib.itoa dX) 60 W (by decide) iX1 (by simp) (by omega) (by decide) (by decide) hW
    rw [iX2, show strV [48] = 0 from rfl, Int.zero_sub] at this
    exact this
  have HPR : Hid (∀ (p : Option Addr) (c : Nat) W, RdLL W p (prRows n X Y n) → Tab W → Calls Tryd.prog 35 #[.slice p n c] W (NumOutS W (dX * dY))) := by
    intro p c W hr hW
    obtain ⟨q1, q2⟩ := prRows_ok HCX.out HCY.out hn4
    have := q1.det hn4 (by decide) p c W hr hW
    rw [q2, mul_det hn2 hn4 HCX.out.sq HCY.out.sq, HDX.out, HDY.out] at this
    exact this
  have HZR : Hid (∀ (p : Option Addr) (c : Nat) W, RdLL W p (zRows X i k n) → Tab W → Calls Tryd.prog 35 #[.slice p n c] W (NumOutS W (-dX))) := by
    intro p c W hr hW
    obtain ⟨q1, q2⟩ := zRows_ok HCX.out hi hk
    have := q1.det hn4 (by decide) p c W hr hW
    rw [q2, swap_det hn2 hn4 HCX.out.sq hi hk hik, HDX.out] at this
    exact this
  have HAR : Hid (∀ (p : Option Addr) (c : Nat) W, RdLL W p (aRows n X i k n) → Tab W → Calls Tryd.prog 35 #[.slice p n c] W (NumOutS W dX)) := by
    intro p c W hr hW
    have := (aRows_ok HCX.out hi hk n (Nat.le_refl _)).det hn4 (by decide) p c W hr hW
    rw [aRows_val HCX.out hi hk, add_det hn2 hn4 HCX.out.sq hi hk hik, HDX.out] at this
    exact this
  have HDXC : Hid (∀ (p : Option Addr) (c : Nat) W, RdLL W p X → Tab W → Calls Tryd.prog 35 #[.slice p n c] W (NumOutS W dX)) := by
    intro p c W hr hW
    have := HCX.out.det hn4 (by decide) p c W hr hW
    rw [HDX.out] at this
    exact this
  have HDYC : Hid (∀ (p : Option Addr) (c : Nat) W, RdLL W p Y → Tab W → Calls Tryd.prog 35 #[.slice p n c] W (NumOutS W dY)) := by
    intro p c W hr hW
    have := HCY.out.det hn4 (by decide) p c W hr hW
    rw [HDY.out] at this
    exact this
  have hbD := hbX
  have HBD := Lib.hid hbD
  clear hdX hdY hbX hbY hbD iX1 iX2 iX3 iY1 iY2 iY3
  refine (HDXC.out pX cX w2 HX.out (HT.out.below hb2)).mono ?_
  rintro e w3 ⟨rfl, hb3'⟩
  have hb3 := hb2.trans (hb3'.mono hb2.size)
  go_wp2_with fail
  refine (HDYC.out pY cY w3 (HY.out.below hb3') (HT.out.below hb3)).mono ?_
  rintro e w4 ⟨rfl, hb4'⟩
  have hb4 := hb3.trans (hb4'.mono hb3.size)
  go_wp2_with fail
  refine (HMUL.out w4 (HT.out.below hb4)).mono ?_
  rintro e w5 ⟨rfl, hb5'⟩
  have hb5 := hb4.trans (hb5'.mono hb4.size)
  have hb25 : Below w2.heap.size w2 w5 := (hb3'.trans (hb4'.mono hb3'.size)).trans (hb5'.mono (Nat.le_trans hb3'.size hb4'.size))
  clear hb3' hb4' hb5' hb3 hb4
  go_wp2_with fail
  go_loopg [18, 19] n (fun gk v18 v19 wr => ∃ (r : Nat) (p18 : Option Addr) (c18 : Nat), r ≤ n ∧ gk = n - r ∧ v19 = .int .i64 (r : Int) ∧ v18 = .slice p18 r c18 ∧ Hid (GrM wr w5.heap.size v18 (prRows n X Y r)) ∧ w5.heap.size ≤ wr.heap.size ∧ Below w5.heap.size w5 wr)
  case atStart => exact ⟨0, none, 0, Nat.zero_le _, rfl, rfl, rfl, GrM.nil _ _, Nat.le_refl _, Below.refl _ _⟩
  case round =>
    obtain ⟨r, p18, c18, hr, hgk, rfl, rfl, HG, hsz, hbr⟩ := hrel
    have HGK := Lib.hid hgk
    clear hgk
    by_cases hlt : r < n
    · have hri : (r : Int) < (n : Int) := by omega
      go_wp2_with fail
      generalize wr = wo at *
      go_loopg [20, 21] n (fun gk v20 v21 wx => ∃ (c : Nat) (p20 : Option Addr) (c20 : Nat), c ≤ n ∧ gk = n - c ∧ v21 = .int .i64 (c : Int) ∧ v20 = .slice p20 c c20 ∧ Hid (GrS wx wo.heap.size v20 (prRow n X Y r c)) ∧ wo.heap.size ≤ wx.heap.size ∧ Below wo.heap.size wo wx)
      case atStart => exact ⟨0, none, 0, Nat.zero_le _, rfl, rfl, rfl, GrS.nil _ _, Nat.le_refl _, Below.refl _ _⟩
      case round =>
        obtain ⟨c, p20, c20, hc, hgk2, rfl, rfl, HN, hsz2, hbc⟩ := hrel
        have HGK2 := Lib.hid hgk2
        clear hgk2
        by_cases hlt2 : c < n
        · have hci : (c : Int) < (n : Int) := by omega
          go_wp2_with fail
          generalize wr = wq at *
          go_loopg [22, 23] n (fun gk v22 v23 wx => ∃ (t : Nat) (p22 : Option Addr) (c22 : Nat), t ≤ n ∧ gk = n - t ∧ v23 = .int .i64 (t : Int) ∧ v22 = .slice p22 t c22 ∧ Hid (GrS wx wq.heap.size v22 (prT X Y r c t)) ∧ wq.heap.size ≤ wx.heap.size ∧ Below wq.heap.size wq wx)
          case atStart => exact ⟨0, none, 0, Nat.zero_le _, rfl, rfl, rfl, GrS.nil _ _, Nat.le_refl _, Below.refl _ _⟩
          case round =>
            obtain ⟨t, p22, c22, ht, hgk3, rfl, rfl, HM, hsz3, hbt⟩ := hrel
            have HGK3 := Lib.hid hgk3
            clear hgk3
            have hbq := hbr.trans (hbc.mono hbr.size)
            have hbw5 := hbq.trans (hbt.mono hbq.size)
            have hbw2 := hb25.trans (hbw5.mono hb25.size)
            have hbw := hb5.trans (hbw5.mono hb5.size)
            by_cases hlt3 : t < n
            · have hti : (t : Int) < (n : Int) := by omega
              obtain ⟨rx, ex1, ex2, ex3, ex4, ex5, ex6, ex7⟩ := HCX.out.at hlt hlt3
              obtain ⟨ry, ey1, ey2, ey3, ey4, ey5, ey6, ey7⟩ := HCY.out.at hlt3 hlt2
              obtain ⟨bx, ox, qx, cqx, rfl, hbx1, hcx, hrx⟩ := (HX.out.below hbw2) r rx ex1
              obtain ⟨by', oy, qy, cqy, rfl, hby1, hcy, hry⟩ := (HY.out.below hbw2) t ry ey1
              obtain ⟨bx2, ox2, rfl, hbx2, hcx2⟩ := hrx t _ ex3
              obtain ⟨by2, oy2, rfl, hby2, hcy2⟩ := hry c _ ey3
              rw [ex2] at hcx
              rw [ey2] at hcy
              have HMM : Hid (∀ W, Tab W → Calls Tryd.prog 24 #[.string ⟨(entS X r t).toArray⟩, .string ⟨(entS Y t c).toArray⟩] W (NumOutS W (at2 (valRows X) r t * at2 (valRows Y) t c))) := by
                intro W hW
                have := mulS (entS X r t) (entS Y t c) 13 W ex4 ey4 ex5 ey5 (by decide) (by decide) hW
                rw [ex6, ey6] at this
                exact this
              have hsc := prT_succ X Y r c t
              have HSC := Lib.hid hsc
              have htl := prT_len X Y r c t
              generalize entS X r t = sx at *
              generalize entS Y t c = sy at *
              obtain ⟨zt, hzt⟩ : ∃ z, at2 (valRows X) r t * at2 (valRows Y) t c = z := ⟨_, rfl⟩
              rw [hzt] at HMM HSC
              clear hsc ex1 ex2 ex3 ex4 ex5 ex6 ex7 ey1 ey2 ey3 ey4 ey5 ey6 ey7 hrx hry hzt
              have hbD : Below wr.heap.size wr wr.drew := (Below.refl _ _).drew
              have HTD := Lib.hid ((HT.out.below hbw).below hbD)
              go_wp2_with fail
              go_region_held3 (fun w' => w'.cell? ⟨bx, ox + r, none⟩ = some (.slice (some ⟨bx2, ox2, none⟩) n cqx) ∧ w'.cell? ⟨by', oy + t, none⟩ = some (.slice (some ⟨by2, oy2, none⟩) n cqy) ∧ w'.cell? ⟨bx2, ox2 + t, none⟩ = some (.string ⟨sx.toArray⟩) ∧ w'.cell? ⟨by2, oy2 + c, none⟩ = some (.string ⟨sy.toArray⟩))
                (simp [go_sem, *])
                (first
                  | (go_at_call 24; refine (HMM.out _ HTD.out).mono ?_; rintro e w6 ⟨rfl, hb6⟩; have e0 := (hb6.cell (p := ⟨bx, ox + r, none⟩) hbx1).trans hcx; have e1 := (hb6.cell (p := ⟨by', oy + t, none⟩) hby1).trans hcy; have e2 := (hb6.cell (p := ⟨bx2, ox2 + t, none⟩) hbx2).trans hcx2; have e3 := (hb6.cell (p := ⟨by2, oy2 + c, none⟩) hby2).trans hcy2))
              have hgn := HM.out.below (hbD.trans (hb6.mono hbD.size))
              have hb6r : Below wr.heap.size wr w6 := hbD.trans (hb6.mono hbD.size)
              have hsz6 := Nat.le_trans hsz3 hb6r.size
              go_wp2_with (at_builtin; refine pushS_law rfl _ _ rfl rfl hgn (Lib.itoa zt) rfl (by rw [htl]; omega) hsz6 ?_; intro v' w' hgn' hb7)
              go_roundg (n - (t + 1))
              case measure => rw [HGK3.out]; omega
              case rel =>
                rw [← HSC.out] at hgn'
                obtain ⟨p', m', c', hv', hm'⟩ := hgn'.form'
                have hm2 := hm'.out
                rw [prT_len] at hm2
                subst hm2
                exact ⟨t + 1, p', c', by omega, rfl, by go_num, hv', hgn', Nat.le_trans hsz6 hb7.size, (hbt.trans (hb6r.mono hsz3)).trans hb7⟩
            · have hti : ¬ (t : Int) < (n : Int) := by omega
              have htn : n = t := by omega
              obtain ⟨t1, t2⟩ := prT_ok HCX.out HCY.out hlt hlt2
              have hrdT : RdL wr p22 (prT X Y r c n) := by
                obtain ⟨p', c', hv', _, hh⟩ := HM.out.rd
                rw [prT_len] at hv'
                cases hv'
                rw [htn]; exact hh
              have HSS := Lib.hid (sumS p22 n c22 27 (prT X Y r c n) wr (prT_len _ _ _ _ _) (by omega) hrdT t1 (by decide) (by decide) (HT.out.below hbw))
              rw [t2] at HSS
              have hrow := prRow_succ n X Y r c
              have HROW := Lib.hid hrow
              have hrl := prRow_len n X Y r c
              obtain ⟨ze, hze⟩ : ∃ z, prE n X Y r c = z := ⟨_, rfl⟩
              have hze' : sumZ ((List.range n).map fun t => at2 (valRows X) r t * at2 (valRows Y) t c) = ze := hze
              rw [hze'] at HSS
              rw [hze] at HROW
              subst htn
              clear hrow hze hze' t1 t2 hrdT
              go_wp2_with fail
              refine HSS.out.mono ?_
              rintro e w6 ⟨rfl, hb6⟩
              have hbt6 := hbt.trans (hb6.mono hbt.size)
              have hgn := HN.out.below hbt6
              have hsz6 := Nat.le_trans hsz2 hbt6.size
              go_wp2_with (at_builtin; refine pushS_law rfl _ _ rfl rfl hgn (Lib.itoa ze) rfl (by rw [hrl]; omega) hsz6 ?_; intro v' w' hgn' hb7)
              go_roundg (n - (c + 1))
              case measure => rw [HGK2.out]; omega
              case rel =>
                rw [← HROW.out] at hgn'
                obtain ⟨p', m', c', hv', hm'⟩ := hgn'.form'
                have hm2 := hm'.out
                rw [prRow_len] at hm2
                subst hm2
                exact ⟨c + 1, p', c', by omega, rfl, by go_num, hv', hgn', Nat.le_trans hsz6 hb7.size, (hbc.trans (hbt6.mono hsz2)).trans hb7⟩
        · have hci : ¬ (c : Int) < (n : Int) := by omega
          have hcn : n = c := by omega
          obtain ⟨pr, cr, hvr, _, hrdR⟩ := HN.out.rd
          rw [prRow_len] at hvr
          cases hvr
          have hrdR' : RdL wr p20 (prRow n X Y r n) := by rw [hcn] at hrdR ⊢; exact hrdR
          have hgm := HG.out.below hbc
          have hrs := prRows_len n X Y r
          have hrl := prRow_len n X Y r n
          have hszx := Nat.le_trans hsz hsz2
          have HRR := Lib.hid (prRows_succ n X Y r)
          subst hcn
          clear hrdR
          go_wp2_with (at_builtin; refine pushRow_law rfl _ _ rfl rfl hgm hrl hrdR' rfl (by rw [hrs]; omega) hszx ?_; intro v' w' hgm' hb6 _)
          go_roundg (n - (r + 1))
          case measure => rw [HGK.out]; omega
          case rel =>
            rw [← HRR.out] at hgm'
            obtain ⟨p', c', hv', _, _⟩ := hgm'.rd
            rw [prRows_len] at hv'
            exact ⟨r + 1, p', c', by omega, rfl, by go_num, hv', hgm', Nat.le_trans hszx hb6.size, (hbr.trans (hbc.mono hbr.size)).trans hb6⟩
    · have hri : ¬ (r : Int) < (n : Int) := by omega
      have hrn : n = r := by omega
      obtain ⟨pr, cr, hvr, _, hrdM⟩ := HG.out.rd
      rw [prRows_len] at hvr
      cases hvr
      have HRM : Hid (RdLL wr p18 (prRows n X Y n)) := by rw [hrn] at hrdM ⊢; exact hrdM
      subst hrn
      have hbw2 := hb25.trans (hbr.mono hb25.size)
      have hbw := hb5.trans (hbr.mono hb5.size)
      clear hrdM HG
      go_wp2_with fail
      refine (HPR.out p18 c18 wr HRM.out (HT.out.below hbw)).mono ?_
      rintro e w6 ⟨rfl, hb6'⟩
      have hb6 := hbw.trans (hb6'.mono hbw.size)
      have hb26 := hbw2.trans (hb6'.mono hbw2.size)
      go_wp2_with fail
      clear HRM HPR
      go_loopg [30, 31] n (fun gk v30 v31 wz => ∃ (r : Nat) (p30 : Option Addr) (c30 : Nat), r ≤ n ∧ gk = n - r ∧ v31 = .int .i64 (r : Int) ∧ v30 = .slice p30 r c30 ∧ Hid (GrM wz w6.heap.size v30 (zRows X i k r)) ∧ w6.heap.size ≤ wz.heap.size ∧ Below w6.heap.size w6 wz)
      case atStart => exact ⟨0, none, 0, Nat.zero_le _, rfl, rfl, rfl, GrM.nil _ _, Nat.le_refl _, Below.refl _ _⟩
      case round =>
        obtain ⟨r, p30, c30, hr, hgk, rfl, rfl, HZ, hszz, hbz⟩ := hrel
        have HGKZ := Lib.hid hgk
        clear hgk
        have hbz2 := hb26.trans (hbz.mono hb26.size)
        have hbzw := hb6.trans (hbz.mono hb6.size)
        by_cases hlt : r < n
        · have hri : (r : Int) < (n : Int) := by omega
          by_cases h1 : r = i
          · have e1 : ((r : Int) == (i : Int)) = true := by simp [h1]
            have e1' : (r : Int) = (i : Int) := by omega
            obtain ⟨m1, m2, m3⟩ := HCX.out.row hk
            obtain ⟨bx, ox, qx, cqx, rfl, hbx1, hcx, hrx⟩ := (HX.out.below hbz2) _ _ m1
            rw [m2] at hcx
            have HRX := Lib.hid hrx
            have hzr : zRow X i k r = (X[k]?).getD [] := by unfold zRow; rw [if_pos h1]
            have hzs := zRows_succ X i k r
            rw [hzr] at hzs
            have HZS := Lib.hid hzs
            have hzl := zRows_len X i k r
            have hgm := HZ.out
            have hm2 := m2
            clear m1 m2 m3 hrx hzr hzs
            go_wp2_with (at_builtin; refine pushRow_law rfl _ _ rfl rfl hgm hm2 HRX.out rfl (by rw [hzl]; omega) hszz ?_; intro v' w' hgm' hb7 _)
            go_roundg (n - (r + 1))
            case measure => rw [HGKZ.out]; omega
            case rel =>
              rw [← HZS.out] at hgm'
              obtain ⟨p', c', hv', _, _⟩ := hgm'.rd
              rw [zRows_len] at hv'
              exact ⟨r + 1, p', c', by omega, rfl, by go_num, hv', hgm', Nat.le_trans hszz hb7.size, hbz.trans hb7⟩
          · have e1 : ((r : Int) == (i : Int)) = false := by simp; omega
            have e1' : ¬ (r : Int) = (i : Int) := by omega
            by_cases h2 : r = k
            · have e2 : ((r : Int) == (k : Int)) = true := by simp [h2]
              have e2' : (r : Int) = (k : Int) := by omega
              obtain ⟨m1, m2, m3⟩ := HCX.out.row hi
              obtain ⟨bx, ox, qx, cqx, rfl, hbx1, hcx, hrx⟩ := (HX.out.below hbz2) _ _ m1
              rw [m2] at hcx
              have HRX := Lib.hid hrx
              have hzr : zRow X i k r = (X[i]?).getD [] := by unfold zRow; rw [if_neg h1, if_pos h2]
              have hzs := zRows_succ X i k r
              rw [hzr] at hzs
              have HZS := Lib.hid hzs
              have hzl := zRows_len X i k r
              have hgm := HZ.out
              have hm2 := m2
              clear m1 m2 m3 hrx hzr hzs
              go_wp2_with (at_builtin; refine pushRow_law rfl _ _ rfl rfl hgm hm2 HRX.out rfl (by rw [hzl]; omega) hszz ?_; intro v' w' hgm' hb7 _)
              go_roundg (n - (r + 1))
              case measure => rw [HGKZ.out]; omega
              case rel =>
                rw [← HZS.out] at hgm'
                obtain ⟨p', c', hv', _, _⟩ := hgm'.rd
                rw [zRows_len] at hv'
                exact ⟨r + 1, p', c', by omega, rfl, by go_num, hv', hgm', Nat.le_trans hszz hb7.size, hbz.trans hb7⟩
            · have e2 : ((r : Int) == (k : Int)) = false := by simp; omega
              have e2' : ¬ (r : Int) = (k : Int) := by omega
              obtain ⟨m1, m2, m3⟩ := HCX.out.row hlt
              obtain ⟨bx, ox, qx, cqx, rfl, hbx1, hcx, hrx⟩ := (HX.out.below hbz2) _ _ m1
              rw [m2] at hcx
              have HRX := Lib.hid hrx
              have hzr : zRow X i k r = (X[r]?).getD [] := by unfold zRow; rw [if_neg h1, if_neg h2]
              have hzs := zRows_succ X i k r
              rw [hzr] at hzs
              have HZS := Lib.hid hzs
              have hzl := zRows_len X i k r
              have hgm := HZ.out
              have hm2 := m2
              clear m1 m2 m3 hrx hzr hzs
              go_wp2_with (at_builtin; refine pushRow_law rfl _ _ rfl rfl hgm hm2 HRX.out rfl (by rw [hzl]; omega) hszz ?_; intro v' w' hgm' hb7 _)
              go_roundg (n - (r + 1))
              case measure => rw [HGKZ.out]; omega
              case rel =>
                rw [← HZS.out] at hgm'
                obtain ⟨p', c', hv', _, _⟩ := hgm'.rd
                rw [zRows_len] at hv'
                exact ⟨r + 1, p', c', by omega, rfl, by go_num, hv', hgm', Nat.le_trans hszz hb7.size, hbz.trans hb7⟩
        · have hri : ¬ (r : Int) < (n : Int) := by omega
          have hrn : n = r := by omega
          obtain ⟨pr, cr, hvr, _, hrdZ⟩ := HZ.out.rd
          rw [zRows_len] at hvr
          cases hvr
          have HRZ : Hid (RdLL wr p30 (zRows X i k n)) := by rw [hrn]; exact hrdZ
          subst hrn
          clear hrdZ HZ
          go_wp2_with fail
          refine (HZR.out p30 c30 wr HRZ.out (HT.out.below hbzw)).mono ?_
          rintro e w7 ⟨rfl, hb7'⟩
          have hb7 := hbzw.trans (hb7'.mono hbzw.size)
          go_wp2_with fail
          refine (HSUB.out w7 (HT.out.below hb7)).mono ?_
          rintro e w8 ⟨rfl, hb8'⟩
          have hb8 := hb7.trans (hb8'.mono hb7.size)
          clear HZR HSUB HRZ
          go_wp2_with fail
          refine (square_any a n0 c0 rows0 n w8 HL.out hn0 (by omega) (HR.out.below hb8) HS.out).mono ?_
          rintro e w9 ⟨pW, cW, rfl, hW, hb9'⟩
          rw [HXE.out] at hW
          have hb9 := hb8.trans (hb9'.mono hb8.size)
          have hW0 : GrSq w9 w8.heap.size (.slice pW n cW) (aRows n X i k 0) := by rw [aRows_zero HCX.out hi]; exact hW
          clear hW
          go_wp2_with fail
          generalize wr = wz at *
          go_loopg [37] n (fun gk v37 wx => ∃ c : Nat, c ≤ n ∧ gk = n - c ∧ v37 = .int .i64 (c : Int) ∧ Hid (GrSq wx w8.heap.size (.slice pW n cW) (aRows n X i k c)) ∧ w8.heap.size ≤ wx.heap.size ∧ Below w8.heap.size w8 wx)
          case atStart => exact ⟨0, Nat.zero_le _, rfl, rfl, hW0, hb9'.size, hb9'⟩
          case round =>
            obtain ⟨c, hc, hgk, rfl, HW, hszw, hbw9⟩ := hrel
            have HGKW := Lib.hid hgk
            clear hgk
            have hbww := hb8.trans (hbw9.mono hb8.size)
            by_cases hlt : c < n
            · have hci : (c : Int) < (n : Int) := by omega
              -- row k and row i at column c
              obtain ⟨rk, k1, k2, k3, k4, k5, k6, k7⟩ := HCX.out.at hk hlt
              obtain ⟨ri, i1, i2, i3, i4, i5, i6, i7⟩ := HCX.out.at hi hlt
              have hak : (aRows n X i k c)[k]? = some rk := by unfold aRows; rw [List.getElem?_set, if_neg hik]; exact k1
              have hai : (aRows n X i k c)[i]? = some (aRow n X i k c) := by unfold aRows; rw [List.getElem?_set, if_pos rfl, if_pos (by rw [HCX.out.len]; exact hi)]
              have hac : (aRow n X i k c)[c]? = some (entS X i c) := by unfold aRow; rw [List.getElem?_map, List.getElem?_range hlt]; simp
              obtain ⟨bk, gk, cck, ek1, ek2, ek3, _, _, ek6, ek7, _⟩ := HW.out.spot hak k3
              obtain ⟨bi, gi, cci, ei1, ei2, ei3, ei4, ei5, ei6, ei7, ei8⟩ := HW.out.spot hai hac
              rw [ek1] at ei1
              cases ei1
              subst ek1
              rw [k2] at ek2
              rw [aRow_len] at ei2
              have hset : (aRows n X i k c).set i ((aRow n X i k c).set c (Lib.itoa (aE X i k c))) = aRows n X i k (c + 1) := by
                rw [← aRow_succ X i k c hlt]; unfold aRows; rw [List.set_set]
              have hput := ei8 (Lib.itoa (aE X i k c))
              rw [hset] at hput
              have HPUT0 : Hid (∀ W, Below wr.heap.size wr W → GrSq W w8.heap.size (.slice (some ⟨bk, 0, none⟩) n cW) (aRows n X i k c)) := fun W hW => HW.out.below hW
              obtain ⟨sm1, sm2⟩ := aE_small HCX.out hi hk hlt
              have HMK : Hid (∀ W, Tab W → Calls Tryd.prog 24 #[.string ⟨(entS X k c).toArray⟩, .string ⟨#[45, 51]⟩] W (NumOutS W (at2 (valRows X) k c * (-3)))) := by
                intro W hW
                have := mulS (entS X k c) [45, 51] 13 W k4 (by decide) k5 (by decide) (by decide) (by decide) hW
                rw [k6, show strV [45, 51] = -3 from rfl] at this
                exact this
              obtain ⟨q1, q2, q3⟩ := itoa_ok (by decide) sm1 (by decide)
              have HAK : Hid (∀ W, Tab W → Calls Tryd.prog 22 #[.string ⟨(entS X i c).toArray⟩, .string ⟨(Lib.itoa (at2 (valRows X) k c * (-3))).toArray⟩] W (NumOutS W (aE X i k c))) := by
                intro W hW
                have := addS (entS X i c) (Lib.itoa (at2 (valRows X) k c * (-3))) 15 W i4 q1 (by omega) q3 (by decide) (by decide) hW
                rw [i6, q2] at this
                exact this
              have HSET := Lib.hid hset
              have HAI := Lib.hid hai
              have HAC := Lib.hid hac
              clear hak hai hac hset hput ei8 k1 k2 k3 k4 k5 k6 k7 i1 i2 i3 i4 i5 i6 i7 sm1 sm2 q1 q2 q3
              generalize entS X k c = sk at *
              generalize entS X i c = si at *
              obtain ⟨zm, hzm⟩ : ∃ z, at2 (valRows X) k c * (-3) = z := ⟨_, rfl⟩
              rw [hzm] at HMK HAK
              obtain ⟨za, hza⟩ : ∃ z, aE X i k c = z := ⟨_, rfl⟩
              rw [hza] at HAK HSET
              clear hzm hza
              go_wp2_with fail
              refine (HMK.out wr (HT.out.below hbww)).mono ?_
              rintro e wa ⟨rfl, hba⟩
              have ea1 := (hba.cell (p := ⟨bk, i, none⟩) ei7).trans ei2
              have ea2 := (hba.cell (p := ⟨gi, c, none⟩) ei6).trans ei3
              have hbwa := hbww.trans (hba.mono hbww.size)
              go_wp2_with fail
              refine (HAK.out wa (HT.out.below hbwa)).mono ?_
              rintro e wb ⟨rfl, hbb⟩
              have hbab : Below wr.heap.size wr wb := hba.trans (hbb.mono hba.size)
              obtain ⟨bi', gi', cci', f1, f2, f3, f4, f5, f6, f7, f8⟩ := (HPUT0.out wb hbab).spot HAI.out HAC.out
              cases f1
              rw [aRow_len] at f2
              have hput := f8 (Lib.itoa za)
              rw [HSET.out] at hput
              have HPUT := Lib.hid hput
              have hbw8 : Below w8.heap.size w8 wb := hbw9.trans (hbab.mono hbw9.size)
              clear hput f8 ea1 ea2 ei2 ei3 ek2 ek3
              go_wp2_with fail
              go_roundg (n - (c + 1))
              case measure => rw [HGKW.out]; omega
              case rel => exact ⟨c + 1, by omega, rfl, by go_num, HPUT.out, by simp only [World.size_setCell]; exact hbw8.size, hbw8.setCell (by simp only; omega) _⟩
            · have hci : ¬ (c : Int) < (n : Int) := by omega
              have hcn : n = c := by omega
              have HRW : Hid (RdLL wr pW (aRows n X i k n)) := by
                have := HW.out.rd
                rw [← hcn] at this
                exact this
              subst hcn
              go_wp2_with fail
              refine (HAR.out pW cW wr HRW.out (HT.out.below hbww)).mono ?_
              rintro e wa ⟨rfl, hba⟩
              have hbwa := hbww.trans (hba.mono hbww.size)
              go_wp2_with fail
              refine (awake_any _ (HT.out.below hbwa) (HE.out.below hbwa)).mono ?_
              rintro e wb ⟨rfl, hbb⟩
              have hbwb := hbwa.trans (hbb.mono hbwa.size)
              go_wp2_with fail
              go_ret
              exact ⟨rfl, hbwb⟩

end Go.Proofs.YtapfkinpdinbgaaDoor
