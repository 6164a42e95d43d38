/-
  The law's 'square', its walk.
-/
import Derived.Test.YtapfkinpdinbgaaDoorSquare
namespace Go.Proofs.YtapfkinpdinbgaaDoor
open Go.RowKit

theorem GrS.form' {w : World} {base : Nat} {v : Value} {ls : List (List UInt8)} (h : GrS w base v ls) : ∃ p m c, v = .slice p m c ∧ Hid (ls.length = m) := by
  obtain ⟨p, c, e, _, _⟩ := h.rd
  exact ⟨p, ls.length, c, e, rfl⟩

theorem sqEnt_in {rows : List (List (List UInt8))} {i k : Nat} {row : List (List UInt8)} {s : List UInt8} (h : rows[i]? = some row) (h2 : row[k]? = some s) : sqEnt rows i k = cleanF 12 s := by unfold sqEnt; rw [h]; dsimp only; rw [h2]
theorem sqEnt_out1 {rows : List (List (List UInt8))} {i k : Nat} (h : rows.length ≤ i) : sqEnt rows i k = [48] := by unfold sqEnt; rw [List.getElem?_eq_none h]
theorem sqEnt_out2 {rows : List (List (List UInt8))} {i k : Nat} {row : List (List UInt8)} (h : rows[i]? = some row) (h2 : row.length ≤ k) : sqEnt rows i k = [48] := by unfold sqEnt; rw [h]; dsimp only; rw [List.getElem?_eq_none h2]

set_option maxRecDepth 100000 in
set_option maxHeartbeats 4000000 in
theorem square_any (a : Option Addr) (n0 c : Nat) (rows : List (List (List UInt8))) (N : Nat) (w : World) (hl : rows.length = n0) (hn0 : n0 ≤ 9223372036854775807) (hN : N ≤ 1000) (hr : RdLL w a rows) (hs : ∀ row ∈ rows, row.length ≤ 9223372036854775807 ∧ ∀ s ∈ row, s.length ≤ 9223372036854775807) :
    Calls Tryd.prog 38 #[.slice a n0 c, .int .i64 (N : Int)] w fun e w' => ∃ p c', e = .returned (.slice p N c') ∧ GrSq w' w.heap.size (.slice p N c') (sqF rows N N) ∧ Below w.heap.size w w' := by
  have HL := Lib.hid hl
  have HR := Lib.hid hr
  have HS := Lib.hid hs
  clear hl hr hs
  go_enter Tryd.func38, Tryd.ntmps38
  go_wp2_with fail
  go_loopg [5, 6] N (fun gk v5 v6 wr => ∃ (i : Nat) (p5 : Option Addr) (c5 : Nat), i ≤ N ∧ gk = N - i ∧ v6 = .int .i64 (i : Int) ∧ v5 = .slice p5 i c5 ∧ Hid (GrSq wr w.heap.size v5 (sqF rows N i)) ∧ w.heap.size ≤ wr.heap.size ∧ Below w.heap.size w wr)
  case atStart => exact ⟨0, none, 0, Nat.zero_le _, rfl, rfl, rfl, GrSq.nil _ _, Nat.le_refl _, Below.refl _ _⟩
  case round =>
    obtain ⟨i, p5, c5, hi, hgk, rfl, rfl, HG, hsz, hb⟩ := hrel
    have HGK := Lib.hid hgk
    clear hgk
    by_cases hlt : i < N
    · have hli : (i : Int) < (N : Int) := by omega
      go_wp2_with fail
      generalize wr = wo at *
      go_loopg [7, 8] N (fun gk v7 v8 wx => ∃ (k : Nat) (p7 : Option Addr) (c7 : Nat), k ≤ N ∧ gk = N - k ∧ v8 = .int .i64 (k : Int) ∧ v7 = .slice p7 k c7 ∧ Hid (GrS wx wo.heap.size v7 (sqRow rows i k)) ∧ wo.heap.size ≤ wx.heap.size ∧ Below wo.heap.size wo wx)
      case atStart => exact ⟨0, none, 0, Nat.zero_le _, rfl, rfl, rfl, GrS.nil _ _, Nat.le_refl _, Below.refl _ _⟩
      case round =>
        obtain ⟨k, p7, c7, hk, hgk2, rfl, rfl, HN, hsz2, hbx⟩ := hrel
        have HGK2 := Lib.hid hgk2
        clear hgk2
        have hbw := hb.trans (hbx.mono hb.size)
        by_cases hlt2 : k < N
        · have hki : (k : Int) < (N : Int) := by omega
          by_cases hin : i < n0
          · have hini : (i : Int) < (n0 : Int) := by omega
            have hil : i < rows.length := by rw [HL.out]; exact hin
            have hrow : rows[i]? = some rows[i] := List.getElem?_eq_getElem hil
            obtain ⟨b, off, q, cq, rfl, hbl, hcell, hrd⟩ := HR.out i _ hrow
            obtain ⟨hrl, hrs⟩ := HS.out _ (List.getElem_mem hil)
            generalize rows[i] = row at *
            have hcell := (hbw.cell (p := ⟨b, off + i, none⟩) hbl).trans hcell
            obtain ⟨L, hL⟩ : ∃ L, row.length = L := ⟨_, rfl⟩
            rw [hL] at hcell hrl
            have HLL := Lib.hid hL
            have HROW := Lib.hid hrow
            have HRS := Lib.hid hrs
            have HRD := Lib.hid hrd
            clear hL hrow hrs hrd
            by_cases hkn : k < L
            · have hkl : (k : Int) < (L : Int) := by omega
              have hkr : k < row.length := by rw [HLL.out]; exact hkn
              have hsk : row[k]? = some row[k] := List.getElem?_eq_getElem hkr
              have HE := Lib.hid (sqEnt_in HROW.out hsk)
              obtain ⟨b2, off2, rfl, hbl2, hcell2⟩ := (HRD.out.below hbw) k _ hsk
              have hsl := HRS.out _ (List.getElem_mem hkr)
              generalize row[k] = s at *
              clear hsk
              go_wp2_with fail
              refine (clean_fn s 12 _ hsl (by omega) (by omega)).mono ?_
              rintro e w5 ⟨rfl, hb5⟩
              have hsz5 := Nat.le_trans hsz2 hb5.size
              have hb5' := hbx.trans (hb5.mono hbx.size)
              have hgn := HN.out.below hb5
              go_wp2_with (at_builtin; refine pushS_law rfl _ _ rfl rfl hgn (cleanF 12 s) rfl (by rw [sqRow_len]; omega) hsz5 ?_; intro v' w' hgn' hb6)
              go_roundg (N - (k + 1))
              case measure => rw [HGK2.out]; omega
              case rel =>
                have hgr6 : GrS w' wo.heap.size v' (sqRow rows i (k + 1)) := by rw [sqRow_succ, HE.out]; exact hgn'
                obtain ⟨p', m', c', hv', hm'⟩ := hgr6.form'
                have hm2 := hm'.out
                rw [sqRow_len] at hm2
                subst hm2
                exact ⟨k + 1, p', c', by omega, rfl, by go_num, hv', hgr6, Nat.le_trans hsz5 hb6.size, hb5'.trans hb6⟩
            · have hkl : ¬ (k : Int) < (L : Int) := by omega
              have HE := Lib.hid (sqEnt_out2 HROW.out (show row.length ≤ k by rw [HLL.out]; omega))
              have hgn := HN.out
              go_wp2_with (at_builtin; refine pushS_law rfl _ _ rfl rfl hgn [48] rfl (by rw [sqRow_len]; omega) hsz2 ?_; intro v' w' hgn' hb6)
              go_roundg (N - (k + 1))
              case measure => rw [HGK2.out]; omega
              case rel =>
                have hgr6 : GrS w' wo.heap.size v' (sqRow rows i (k + 1)) := by rw [sqRow_succ, HE.out]; exact hgn'
                obtain ⟨p', m', c', hv', hm'⟩ := hgr6.form'
                have hm2 := hm'.out
                rw [sqRow_len] at hm2
                subst hm2
                exact ⟨k + 1, p', c', by omega, rfl, by go_num, hv', hgr6, Nat.le_trans hsz2 hb6.size, hbx.trans hb6⟩
          · have hini : ¬ (i : Int) < (n0 : Int) := by omega
            have HE := Lib.hid (sqEnt_out1 (rows := rows) (i := i) (k := k) (by rw [HL.out]; omega))
            have hgn := HN.out
            go_wp2_with (at_builtin; refine pushS_law rfl _ _ rfl rfl hgn [48] rfl (by rw [sqRow_len]; omega) hsz2 ?_; intro v' w' hgn' hb6)
            go_roundg (N - (k + 1))
            case measure => rw [HGK2.out]; omega
            case rel =>
              have hgr6 : GrS w' wo.heap.size v' (sqRow rows i (k + 1)) := by rw [sqRow_succ, HE.out]; exact hgn'
              obtain ⟨p', m', c', hv', hm'⟩ := hgr6.form'
              have hm2 := hm'.out
              rw [sqRow_len] at hm2
              subst hm2
              exact ⟨k + 1, p', c', by omega, rfl, by go_num, hv', hgr6, Nat.le_trans hsz2 hb6.size, hbx.trans hb6⟩
        · have hki : ¬ (k : Int) < (N : Int) := by omega
          obtain rfl : k = N := by omega
          have hmi := sqF_len rows k i
          have hsl := sqRow_len rows i k
          have hrow := HN.out
          have h0 := HG.out
          have hk0 : 0 < k := by omega
          go_wp2_with (at_builtin; refine pushSq_law rfl _ _ rfl rfl (W0 := wo) rfl h0 hbx hsl hk0 hrow rfl (by rw [hmi]; omega) hsz ?_; intro v' w' hgm' hb6)
          go_roundg (k - (i + 1))
          case measure => rw [HGK.out]; omega
          case rel =>
            rw [← sqF_succ] at hgm'
            obtain ⟨p', c', hv'⟩ := hgm'.form (sqF_len rows k (i + 1))
            exact ⟨i + 1, p', c', by omega, rfl, by go_num, hv', hgm', Nat.le_trans hsz (Nat.le_trans hsz2 hb6.size), hbw.trans hb6⟩
    · have hli : ¬ (i : Int) < (N : Int) := by omega
      obtain rfl : i = N := by omega
      go_wp2_with fail
      go_ret
      first | exact ⟨_, _, rfl, HG.out, hb⟩ | exact ⟨_, rfl, HG.out, hb⟩ | exact ⟨_, ⟨_, rfl⟩, HG.out, hb⟩

end Go.Proofs.YtapfkinpdinbgaaDoor
