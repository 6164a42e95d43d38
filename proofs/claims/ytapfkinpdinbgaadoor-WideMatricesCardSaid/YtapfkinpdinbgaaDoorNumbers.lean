/-
  The law's 'numbers': rows of texts as rows of numbers.
-/
import Derived.Test.YtapfkinpdinbgaaDoorGrids
import Derived.Test.YtapfkinpdinbgaaDoorOut
namespace Go.Proofs.YtapfkinpdinbgaaDoor
open Go.RowKit

def valRow (row : List (List UInt8)) : List Int := row.map strV
def valRows (rows : List (List (List UInt8))) : List (List Int) := rows.map valRow
theorem valRow_snoc {row : List (List UInt8)} {k : Nat} (hk : k < row.length) : valRow (row.take (k + 1)) = valRow (row.take k) ++ [strV row[k]] := by
  unfold valRow; rw [List.take_succ_eq_append_getElem hk, List.map_append]; rfl
theorem valRows_snoc {rows : List (List (List UInt8))} {k : Nat} (hk : k < rows.length) : valRows (rows.take (k + 1)) = valRows (rows.take k) ++ [valRow rows[k]] := by
  unfold valRows; rw [List.take_succ_eq_append_getElem hk, List.map_append]; rfl
theorem valRow_len (row : List (List UInt8)) (k : Nat) (hk : k ≤ row.length) : (valRow (row.take k)).length = k := by unfold valRow; rw [List.length_map, List.length_take]; omega
theorem valRows_len (rows : List (List (List UInt8))) (k : Nat) (hk : k ≤ rows.length) : (valRows (rows.take k)).length = k := by unfold valRows; rw [List.length_map, List.length_take]; omega

/-- Rows of numbers, none of them long. -/
def SmallRows (rows : List (List (List UInt8))) : Prop := ∀ row ∈ rows, row.length ≤ 8 ∧ ∀ s ∈ row, numB s = true ∧ s.length ≤ 60

theorem GrNum.form {w : World} {base : Nat} {v : Value} {row : List Int} {K n : Nat} (h : GrNum w base v row K) (hn : row.length = n) : ∃ p c, v = .slice p n c := by
  obtain ⟨p, c, e, _⟩ := h.rd
  rw [hn] at e
  exact ⟨p, c, e⟩
theorem GrMN.form {w : World} {base : Nat} {v : Value} {M : List (List Int)} {K n : Nat} (h : GrMN w base v M K) (hn : M.length = n) : ∃ p c, v = .slice p n c := by
  obtain ⟨p, c, e, _⟩ := h.rd
  rw [hn] at e
  exact ⟨p, c, e⟩

set_option maxRecDepth 100000 in
set_option maxHeartbeats 4000000 in
theorem numbers_any (a : Option Addr) (n c : Nat) (rows : List (List (List UInt8))) (w : World) (hl : rows.length = n) (hn : n ≤ 8) (hr : RdLL w a rows) (hs : SmallRows rows) :
    Calls Tryd.prog 37 #[.slice a n c] w fun e w' => ∃ p c', e = .returned (.slice p n c') ∧ RdMN w' p (valRows rows) 60 ∧ Below w.heap.size w w' := by
  have HL := Lib.hid hl
  have HR := Lib.hid hr
  have HS := Lib.hid hs
  clear hl hr hs
  go_enter Tryd.func37, Tryd.ntmps37
  go_wp2_with fail
  go_loopg [3, 4] n (fun gk v3 v4 wr => ∃ (i : Nat) (p3 : Option Addr) (c3 : Nat), i ≤ n ∧ gk = n - i ∧ v4 = .int .i64 (i : Int) ∧ v3 = .slice p3 i c3 ∧ Hid (GrMN wr w.heap.size v3 (valRows (rows.take i)) 60) ∧ w.heap.size ≤ wr.heap.size ∧ Below w.heap.size w wr)
  case atStart => exact ⟨0, none, 0, Nat.zero_le _, rfl, rfl, rfl, GrMN.nil _ _ _, Nat.le_refl _, Below.refl _ _⟩
  case round =>
    obtain ⟨i, p3, c3, hi, hgk, rfl, rfl, HG, hsz, hb⟩ := hrel
    have HGK := Lib.hid hgk
    clear hgk
    by_cases hlt : i < n
    · have hli : (i : Int) < (n : Int) := by omega
      have hil : i < rows.length := by rw [HL.out]; exact hlt
      obtain ⟨b, off, q, cq, rfl, hbl, hcell, hrow⟩ := HR.out i _ (List.getElem?_eq_getElem hil)
      obtain ⟨hrl, hrs⟩ := HS.out _ (List.getElem_mem hil)
      have hsn := valRows_snoc hil
      have hmi := valRows_len rows i (by omega)
      generalize rows[i] = row at *
      have HSN := Lib.hid hsn
      have HROW := Lib.hid hrow
      have HRS := Lib.hid hrs
      have HMI := Lib.hid hmi
      obtain ⟨L, hL⟩ : ∃ L, row.length = L := ⟨_, rfl⟩
      rw [hL] at hcell hrl
      have HLL := Lib.hid hL
      have HC := Lib.hid hcell
      clear hsn hrow hrs hL hmi hcell
      go_wp2_with fail
      go_loopg [5, 6] L (fun gk v5 v6 wx => ∃ (k : Nat) (p5 : Option Addr) (c5 : Nat), k ≤ L ∧ gk = L - k ∧ v6 = .int .i64 (k : Int) ∧ v5 = .slice p5 k c5 ∧ Hid (GrNum wx wr.heap.size v5 (valRow (row.take k)) 60) ∧ wr.heap.size ≤ wx.heap.size ∧ Below wr.heap.size wr wx)
      case atStart => exact ⟨0, none, 0, Nat.zero_le _, rfl, rfl, rfl, GrNum.nil _ _ _, Nat.le_refl _, Below.refl _ _⟩
      case round =>
        rename_i wx
        obtain ⟨k, p5, c5, hk, hgk2, rfl, rfl, HN, hsz2, hbx⟩ := hrel
        have HGK2 := Lib.hid hgk2
        clear hgk2
        have hbw := hb.trans (hbx.mono hb.size)
        have hcell := (hbw.cell (p := ⟨b, off + i, none⟩) hbl).trans HC.out
        by_cases hlt2 : k < L
        · have hki : (k : Int) < (L : Int) := by omega
          have hkl : k < row.length := by rw [HLL.out]; exact hlt2
          obtain ⟨b2, off2, rfl, hbl2, hcell2⟩ := (HROW.out.below hbw) k _ (List.getElem?_eq_getElem hkl)
          obtain ⟨hnb, hsl⟩ := HRS.out _ (List.getElem_mem hkl)
          have hsn2 := valRow_snoc hkl
          have hmk := valRow_len row k (by omega)
          generalize row[k] = s at *
          have HSN2 := Lib.hid hsn2
          have HPL := Lib.hid (show plainB s = true by unfold numB at hnb; simp only [Bool.and_eq_true] at hnb; exact hnb.1)
          clear hsn2 hnb
          go_wp2_with fail
          refine (rparse_any s _ (by omega) HPL.out).mono ?_
          rintro e w5 ⟨ng5, p5', n5, c5', xs5, rfl, hx5, hn5, hb5⟩
          have hgn := HN.out.below hb5
          have hsz5 := Nat.le_trans hsz2 hb5.size
          have hb5' := hbx.trans (hb5.mono hbx.size)
          go_wp2_with (at_builtin; refine pushNum_law rfl _ _ rfl rfl hgn hx5 (by omega) rfl (by omega) hsz5 ?_; intro v' w' hgn' hb6)
          go_roundg (L - (k + 1))
          case measure => rw [HGK2.out]; omega
          case rel =>
            rw [← HSN2.out] at hgn'
            obtain ⟨p', c', hv'⟩ := hgn'.form (valRow_len row (k + 1) (by omega))
            exact ⟨k + 1, p', c', by omega, rfl, by go_num, hv', hgn', Nat.le_trans hsz5 hb6.size, hb5'.trans hb6⟩
        · have hki : ¬ (k : Int) < (L : Int) := by omega
          obtain rfl : k = L := by omega
          have hgn := HN.out
          rw [List.take_of_length_le (by rw [HLL.out]; exact Nat.le_refl _)] at hgn
          obtain ⟨p6, c6, hv6, hc6, hnr⟩ := hgn.rd
          have hvl : (valRow row).length = k := by unfold valRow; rw [List.length_map]; exact HLL.out
          rw [hvl] at hv6 hc6
          cases hv6
          have hgm := HG.out.below hbx
          have hszx := Nat.le_trans hsz hsz2
          have hmi := HMI.out
          go_wp2_with (at_builtin; refine pushNRow_law rfl _ _ rfl rfl hgm hvl hc6 hnr rfl (by omega) hszx ?_; intro v' w' hgm' hb6)
          go_roundg (n - (i + 1))
          case measure => rw [HGK.out]; omega
          case rel =>
            rw [← HSN.out] at hgm'
            obtain ⟨p', c', hv'⟩ := hgm'.form (valRows_len rows (i + 1) (by omega))
            exact ⟨i + 1, p', c', by omega, rfl, by go_num, hv', hgm', Nat.le_trans hszx hb6.size, hbw.trans hb6⟩
    · have hli : ¬ (i : Int) < (n : Int) := by omega
      obtain rfl : i = n := by omega
      have hgm := HG.out
      rw [List.take_of_length_le (by rw [HL.out]; exact Nat.le_refl _)] at hgm
      obtain ⟨p6, c6, hv6, hc6, hnr⟩ := hgm.rd
      have hvl : (valRows rows).length = i := by unfold valRows; rw [List.length_map]; exact HL.out
      rw [hvl] at hv6
      cases hv6
      have HNR := Lib.hid hnr
      clear hnr hgm
      go_wp2_with fail
      go_ret
      first | exact ⟨_, rfl, HNR.out, hb⟩ | exact ⟨_, ⟨_, rfl⟩, HNR.out, hb⟩

end Go.Proofs.YtapfkinpdinbgaaDoor
