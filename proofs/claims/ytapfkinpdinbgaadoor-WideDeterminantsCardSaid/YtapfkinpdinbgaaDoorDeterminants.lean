/-
  WideDeterminants, its walk.
-/
import Derived.Test.YtapfkinpdinbgaaDoorDetsA
import Derived.Test.YtapfkinpdinbgaaDoorAwake
import Derived.Deep.CutBlock
namespace Go.Proofs.YtapfkinpdinbgaaDoor
open Go.RowKit

def wE (rows : List (List (List UInt8))) : Int := formE (allR rows)
theorem wE_snoc (rows : List (List (List UInt8))) (ls : List (List UInt8)) : wE (rows ++ [ls]) = max (wE rows) (formE (allN ls)) := by
  unfold wE allR
  rw [List.all_append]
  simp only [List.all_cons, List.all_nil, Bool.and_true]
  cases rows.all allN <;> cases allN ls <;> decide

theorem smallN (n : Int) : ∃ N : Nat, N ≤ 4 ∧ wrap64 ((IntKind.u64.wrap n).tmod 5) = (N : Int) := by
  have h0 : IntKind.u64.wrap n = n % 18446744073709551616 := rfl
  rw [h0, Int.tmod_eq_emod_of_nonneg (by omega)]
  refine ⟨(n % 18446744073709551616 % 5).toNat, by omega, ?_⟩
  unfold wrap64
  omega

/-- What the rows so far make of the error that is asked. -/
def okT (n : Nat) (rows : List (List (List UInt8))) : Bool := rows.all fun r => decide (r.length = n) && decide (n ≤ 6)
theorem okT_want {rows : List (List (List UInt8))} {n : Nat} (hn : rows.length = n) (ha : allR rows = true) : (if okT n rows then (0 : Int) else 1) = wantE rows := by
  unfold wantE
  rw [if_pos ha]
  have e : okT n rows = sqR rows := by
    subst hn
    unfold okT sqR
    rw [Bool.eq_iff_iff]
    simp only [List.all_eq_true, Bool.and_eq_true, decide_eq_true_eq]
    constructor
    · intro h
      refine ⟨?_, fun r hr => (h r hr).1⟩
      cases rows with
      | nil => simp
      | cons r t => exact (h r List.mem_cons_self).2
    · intro h r hr; exact ⟨h.2 r hr, h.1⟩
  rw [e]
theorem okT_snoc {n : Nat} {rows : List (List (List UInt8))} {i : Nat} (hi : i < rows.length) : okT n (rows.take (i + 1)) = (okT n (rows.take i) && (decide (rows[i].length = n) && decide (n ≤ 6))) := by
  unfold okT; rw [List.take_succ_eq_append_getElem hi, List.all_append]; simp

set_option maxRecDepth 100000 in
set_option maxHeartbeats 8000000 in
theorem wideDeterminants_walk (a : Option Addr) (n0 c0 : Nat) (rows0 : List (List (List UInt8))) (nn : Int) (w : World) (hl : rows0.length = n0) (hn0 : n0 ≤ 9223372036854775807) (hr : RdLL w a rows0) (hs : ∀ row ∈ rows0, row.length ≤ 9223372036854775807 ∧ ∀ s ∈ row, s.length ≤ 9223372036854775807) (htab : Tab w) (herr : ErrLaid w) :
    Calls Tryd.prog 7 #[.slice a n0 c0, .int .i64 nn] w fun e w' => e = .returned (.bool true) ∧ Below w.heap.size w w' := by
  have HT := Lib.hid htab
  have HE := Lib.hid herr
  have HL := Lib.hid hl
  have HR := Lib.hid hr
  have HS := Lib.hid hs
  obtain ⟨N0, hN0, hNN⟩ := smallN nn
  have HNN := Lib.hid hNN
  clear htab herr hl hr hs hNN
  go_enter Tryd.func7, Tryd.ntmps7
  go_upto_block 0 with fail
  go_cut [5, 6, 7, 8, 9] from 14 to 55 (fun v5 v6 v7 v8 v9 wx => ∃ (p : Option Addr) (n c : Nat) (rows : List (List (List UInt8))), v5 = .slice p n c ∧ Hid (rows.length = n) ∧ v6 = .int .i64 (wE rows) ∧ n ≤ 8 ∧ Hid (Rows8 rows) ∧ Hid (RdLL wx p rows) ∧ Below w.heap.size w wx)
  case first =>
    go_wp2_with fail
    go_loopg [5, 6, 7] 8 (fun gk v5 v6 v7 wr => ∃ (i : Nat) (p5 : Option Addr) (c5 : Nat) (rows : List (List (List UInt8))), i ≤ n0 ∧ i ≤ 8 ∧ gk = 8 - i ∧ v7 = .int .i64 (i : Int) ∧ v5 = .slice p5 i c5 ∧ Hid (rows.length = i) ∧ v6 = .int .i64 (wE rows) ∧ Hid (∀ r ∈ rows, r.length ≤ 8 ∧ ∀ s ∈ r, s.length ≤ 60) ∧ Hid (GrM wr w.heap.size v5 rows) ∧ w.heap.size ≤ wr.heap.size ∧ Below w.heap.size w wr)
    case atStart => exact ⟨0, none, 0, [], Nat.zero_le _, Nat.zero_le _, rfl, rfl, rfl, rfl, rfl, Lib.hid (fun r hr => by cases hr), GrM.nil _ _, Nat.le_refl _, Below.refl _ _⟩
    case round =>
      obtain ⟨i, p5, c5, rows, hi, hi8, hgk, rfl, rfl, HRI, rfl, HRS, HG, hsz, hb⟩ := hrel
      have HGK := Lib.hid hgk
      clear hgk
      have hrest : ∃ (p : Option Addr) (n c : Nat) (rows' : List (List (List UInt8))), Value.slice p5 i c5 = .slice p n c ∧ Hid (rows'.length = n) ∧ Value.int .i64 (wE rows) = .int .i64 (wE rows') ∧ n ≤ 8 ∧ Hid (Rows8 rows') ∧ Hid (RdLL wr p rows') ∧ Below w.heap.size w wr := by
        obtain ⟨p', c', hv', _, hrd'⟩ := HG.out.rd
        rw [HRI.out] at hv'
        cases hv'
        exact ⟨p5, i, c5, rows, rfl, HRI, rfl, hi8, ⟨by rw [HRI.out]; exact hi8, HRS.out⟩, hrd', hb⟩
      have HREST := Lib.hid hrest
      clear hrest
      by_cases hlt : i < n0
      · have hli : (i : Int) < (n0 : Int) := by omega
        by_cases hlt8 : i < 8
        · have hli8 : (i : Int) < 8 := by omega
          have hil : i < rows0.length := by rw [HL.out]; exact hlt
          obtain ⟨b, off, q, cq, rfl, hbl, hcell, hrd⟩ := HR.out i _ (List.getElem?_eq_getElem hil)
          obtain ⟨hrl, hrs⟩ := HS.out _ (List.getElem_mem hil)
          generalize rows0[i] = row at *
          have HRSR := Lib.hid hrs
          have HRDR := Lib.hid hrd
          obtain ⟨L, hL⟩ : ∃ L, row.length = L := ⟨_, rfl⟩
          rw [hL] at hcell hrl
          have HLL := Lib.hid hL
          have HC := Lib.hid hcell
          clear hrs hrd hL hcell HREST
          go_wp2_with fail
          generalize wr = wo at *
          go_loopg [8, 9] 8 (fun gk v8 v9 wx => ∃ (k : Nat) (p8 : Option Addr) (c8 : Nat) (ls : List (List UInt8)), k ≤ L ∧ k ≤ 8 ∧ gk = 8 - k ∧ v9 = .int .i64 (k : Int) ∧ v8 = .slice p8 k c8 ∧ Hid (ls.length = k) ∧ Hid (∀ s ∈ ls, s.length ≤ 60) ∧ Hid (GrS wx wo.heap.size v8 ls) ∧ wo.heap.size ≤ wx.heap.size ∧ Below wo.heap.size wo wx)
          case atStart => exact ⟨0, none, 0, [], Nat.zero_le _, Nat.zero_le _, rfl, rfl, rfl, rfl, Lib.hid (fun s hs => by cases hs), GrS.nil _ _, Nat.le_refl _, Below.refl _ _⟩
          case round =>
            obtain ⟨k, p8, c8, ls, hk, hk8, hgk2, rfl, rfl, HLK, HLS, HN, hsz2, hbx⟩ := hrel
            have HGK2 := Lib.hid hgk2
            clear hgk2
            have hbw := hb.trans (hbx.mono hb.size)
            have hcell := (hbw.cell (p := ⟨b, off + i, none⟩) hbl).trans HC.out
            by_cases hkl : k < L
            · have hki : (k : Int) < (L : Int) := by omega
              by_cases hkl8 : k < 8
              · have hki8 : (k : Int) < 8 := by omega
                have hkr : k < row.length := by rw [HLL.out]; exact hkl
                obtain ⟨b2, off2, rfl, hbl2, hcell2⟩ := (HRDR.out.below hbw) k _ (List.getElem?_eq_getElem hkr)
                have hsl := HRSR.out _ (List.getElem_mem hkr)
                generalize row[k] = s at *
                have hgn := HN.out
                have hlk := HLK.out
                go_wp2_with (first
                  | (go_at_call 11; refine (calls_flip (part_any s 40 _ hsl (by omega))).mono ?_; rintro e w' ⟨rfl, rfl⟩)
                  | (at_builtin; refine pushS_law rfl _ _ rfl rfl hgn (s.take 40) rfl (by rw [hlk]; omega) hsz2 ?_; intro v' w' hgn' hb6))
                go_roundg (8 - (k + 1))
                case measure => rw [HGK2.out]; omega
                case rel =>
                  have hl1 : (ls ++ [s.take 40]).length = k + 1 := by rw [List.length_append, hlk]; rfl
                  obtain ⟨pn, cn, hvn, _, _⟩ := hgn'.rd
                  rw [hl1] at hvn
                  exact ⟨k + 1, pn, cn, ls ++ [s.take 40], by omega, by omega, rfl, by go_num, hvn, hl1, by
                    intro t ht
                    rcases List.mem_append.1 ht with ht | ht
                    · exact HLS.out t ht
                    · simp at ht; subst ht; rw [List.length_take]; omega, hgn', Nat.le_trans hsz2 hb6.size, hbx.trans hb6⟩
              · have hki8 : ¬ (k : Int) < 8 := by omega
                have hls := HN.out
                obtain ⟨pr, cr, hvr, hcr, hrdl⟩ := hls.rd
                rw [HLK.out] at hvr
                cases hvr
                have HRD8 := Lib.hid hrdl
                have hgm := HG.out.below hbx
                have hszx := Nat.le_trans hsz hsz2
                have hlk := HLK.out
                have hri := HRI.out
                have HFA := Lib.hid (fun W (h : RdL W p8 ls) => form_any p8 k c8 ls W HLK.out (by omega) h (by intro s hs; have := HLS.out s hs; omega))
                go_wp2_with (at_builtin; refine pushRow_law rfl _ _ rfl rfl hgm hlk HRD8.out rfl (by rw [hri]; omega) hszx ?_; intro v' w' hgm' hb6 hrd6)
                refine (HFA.out _ hrd6).mono ?_
                rintro e w6 ⟨rfl, hw6⟩
                subst hw6
                go_wp2_with fail
                go_roundg (8 - (i + 1))
                case measure => rw [HGK.out]; omega
                case rel =>
                  have hl1 : (rows ++ [ls]).length = i + 1 := by rw [List.length_append, hri]; rfl
                  obtain ⟨pn, cn, hvn, _, _⟩ := hgm'.rd
                  rw [hl1] at hvn
                  exact ⟨i + 1, pn, cn, rows ++ [ls], by omega, by omega, rfl, by go_num, hvn, hl1, by rw [wE_snoc], by
                    intro r hr
                    rcases List.mem_append.1 hr with hr | hr
                    · exact HRS.out r hr
                    · simp at hr; subst hr; exact ⟨by omega, HLS.out⟩, hgm', Nat.le_trans hszx hb6.size, (hb.trans (hbx.mono hb.size)).trans hb6⟩
            · have hki : ¬ (k : Int) < (L : Int) := by omega
              have hls := HN.out
              obtain ⟨pr, cr, hvr, hcr, hrdl⟩ := hls.rd
              rw [HLK.out] at hvr
              cases hvr
              have HRD8 := Lib.hid hrdl
              have hgm := HG.out.below hbx
              have hszx := Nat.le_trans hsz hsz2
              have hlk := HLK.out
              have hri := HRI.out
              have HFA := Lib.hid (fun W (h : RdL W p8 ls) => form_any p8 k c8 ls W HLK.out (by omega) h (by intro s hs; have := HLS.out s hs; omega))
              go_wp2_with (at_builtin; refine pushRow_law rfl _ _ rfl rfl hgm hlk HRD8.out rfl (by rw [hri]; omega) hszx ?_; intro v' w' hgm' hb6 hrd6)
              refine (HFA.out _ hrd6).mono ?_
              rintro e w6 ⟨rfl, hw6⟩
              subst hw6
              go_wp2_with fail
              go_roundg (8 - (i + 1))
              case measure => rw [HGK.out]; omega
              case rel =>
                have hl1 : (rows ++ [ls]).length = i + 1 := by rw [List.length_append, hri]; rfl
                obtain ⟨pn, cn, hvn, _, _⟩ := hgm'.rd
                rw [hl1] at hvn
                exact ⟨i + 1, pn, cn, rows ++ [ls], by omega, by omega, rfl, by go_num, hvn, hl1, by rw [wE_snoc], by
                  intro r hr
                  rcases List.mem_append.1 hr with hr | hr
                  · exact HRS.out r hr
                  · simp at hr; subst hr; exact ⟨by omega, HLS.out⟩, hgm', Nat.le_trans hszx hb6.size, (hb.trans (hbx.mono hb.size)).trans hb6⟩
        · have hli8 : ¬ (i : Int) < 8 := by omega
          go_wp2_with fail
          go_meet
          case rel => exact HREST.out
      · have hli : ¬ (i : Int) < (n0 : Int) := by omega
        go_wp2_with fail
        go_meet
        case rel => exact HREST.out
  case rest =>
  obtain ⟨p, n, c, rows, rfl, HRL, rfl, hn8, HR8, HRD, hbc⟩ := hcut
  cases hall : allR rows
  · have hwe : wE rows = 6 := by unfold wE; rw [hall]; rfl
    have hww : wantE rows = 6 := by unfold wantE; rw [hall]; rfl
    have HWW := Lib.hid hww
    rw [hwe]
    clear hall hwe hww
    go_wp2_with fail
    go_loopg [5, 6, 11] 2 (fun gk v5 v6 v11 wx => ∃ (j : Nat) (p : Option Addr) (n c : Nat) (rows : List (List (List UInt8))), j ≤ 2 ∧ gk = 2 - j ∧ v11 = .int .i64 (j : Int) ∧ v5 = .slice p n c ∧ v6 = .int .i64 (wantE rows) ∧ n ≤ 8 ∧ Hid (rows.length = n) ∧ Hid (Rows8 rows) ∧ Hid (RdLL wx p rows) ∧ Below w.heap.size w wx)
    case atStart => exact ⟨0, p, n, c, rows, by omega, rfl, rfl, rfl, by rw [HWW.out], hn8, HRL, HR8, HRD, hbc⟩
    case round =>
      obtain ⟨j, p, n, c, rows, hj, hgk, rfl, rfl, rfl, hn8, HRL, HR8, HRD, hb⟩ := hrel
      have HGK := Lib.hid hgk
      clear hgk
      by_cases hlt : j < 2
      · have hji : (j : Int) < 2 := by omega
        have HDET := Lib.hid (detL_any p n c rows wr HRL.out (by omega) HRD.out (by intro r hr; obtain ⟨h1, h2⟩ := HR8.out.2 r hr; exact ⟨by omega, fun s hs => by have := h2 s hs; omega⟩) (HT.out.below hb))
        rcases wantE_cases rows with hw | hw | hw
        · have HW := Lib.hid hw
          obtain ⟨hallr, hn6, hsq⟩ := wantE_zero hw
          have HALLR := Lib.hid hallr
          have HSQ := Lib.hid hsq
          have hn6' : n ≤ 6 := by rw [← HRL.out]; exact hn6
          rw [hw]
          clear hallr hsq hn6
          go_wp2_with fail
          refine HDET.out.mono ?_
          rintro e w1 ⟨_, h2, hb1'⟩
          obtain rfl := h2 HW.out
          clear h2 hw
          obtain ⟨z, hz⟩ : ∃ z, detZ (valRows rows) = z := ⟨_, rfl⟩
          rw [hz]
          have HZ := Lib.hid hz
          clear hz
          have hb1 := hb.trans (hb1'.mono hb.size)
          go_wp2_with fail
          refine (numbers_any p n c rows _ HRL.out hn8 (HRD.out.below hb1') (small_of HR8.out HALLR.out)).mono ?_
          rintro e w2 ⟨p2, c2, rfl, hrm, hb2'⟩
          have hb2 := hb1.trans (hb2'.mono hb1.size)
          go_wp2_with fail
          refine (rdetL_any p2 n c2 rows _ HRL.out hn6' (by intro r hr; rw [← HRL.out]; exact HSQ.out r hr) hrm).mono ?_
          rintro e w3 ⟨ng3, p3, n3, c3, xs3, rfl, h3, hn3, hb3'⟩
          rw [HZ.out] at h3
          have hdl : DL n ≤ 500 := by unfold DL; omega
          have hb3 := hb2.trans (hb3'.mono hb2.size)
          have hsm := h3.small
          have H3 := Lib.hid h3
          have HSM := Lib.hid hsm
          clear h3 hsm
          go_wp2_with fail
          refine (fit_value ng3 p3 n3 c3 xs3 z _ (by omega) H3.out (Nat.le_trans (itoa_len (k := 4 * n3 + 1) (by omega) (Nat.lt_of_lt_of_le HSM.out (Nat.pow_le_pow_right (by decide) (by omega)))) (by omega))).mono ?_
          rintro e w4 ⟨rfl, hb4'⟩
          have hb4 := hb3.trans (hb4'.mono hb3.size)
          have hb04 : Below wr.heap.size wr w4 := ((hb1'.trans (hb2'.mono hb1'.size)).trans (hb3'.mono (Nat.le_trans hb1'.size hb2'.size))).trans (hb4'.mono (Nat.le_trans hb1'.size (Nat.le_trans hb2'.size hb3'.size)))
          go_wp2_with fail
          rw [HNN.out]
          refine (square_any a n0 c0 rows0 N0 _ HL.out hn0 (by omega) (HR.out.below hb4) HS.out).mono ?_
          rintro e w5 ⟨p5, c5, rfl, hsq5, hb5'⟩
          have hb5 := hb4.trans (hb5'.mono hb4.size)
          go_wp2_with fail
          go_roundg (2 - (j + 1))
          case measure => rw [HGK.out]; omega
          case rel => exact ⟨j + 1, p5, N0, c5, sqF rows0 N0 N0, by omega, rfl, by go_num, rfl, by rw [(sqRows_ok rows0 N0 (by omega)).2.1], by omega, sqF_len _ _ _, (sqRows_ok rows0 N0 (by omega)).1, hsq5.rd, hb5⟩
        · have HW := Lib.hid hw
          rw [hw]
          go_wp2_with fail
          refine HDET.out.mono ?_
          rintro e w1 ⟨h1, _, hb1'⟩
          obtain rfl := h1 (by rw [HW.out]; decide)
          clear h1
          rw [HW.out]
          have hb1 := hb.trans (hb1'.mono hb.size)
          go_wp2_with fail
          refine (fit_want 1 _ false none 0 0 _ (by omega) rfl).mono ?_
          rintro e w4 ⟨rfl, hb4'⟩
          have hb4 := hb1.trans (hb4'.mono hb1.size)
          go_wp2_with fail
          rw [HNN.out]
          refine (square_any a n0 c0 rows0 N0 _ HL.out hn0 (by omega) (HR.out.below hb4) HS.out).mono ?_
          rintro e w5 ⟨p5, c5, rfl, hsq5, hb5'⟩
          have hb5 := hb4.trans (hb5'.mono hb4.size)
          go_wp2_with fail
          go_roundg (2 - (j + 1))
          case measure => rw [HGK.out]; omega
          case rel => exact ⟨j + 1, p5, N0, c5, sqF rows0 N0 N0, by omega, rfl, by go_num, rfl, by rw [(sqRows_ok rows0 N0 (by omega)).2.1], by omega, sqF_len _ _ _, (sqRows_ok rows0 N0 (by omega)).1, hsq5.rd, hb5⟩
        · have HW := Lib.hid hw
          rw [hw]
          go_wp2_with fail
          refine HDET.out.mono ?_
          rintro e w1 ⟨h1, _, hb1'⟩
          obtain rfl := h1 (by rw [HW.out]; decide)
          clear h1
          rw [HW.out]
          have hb1 := hb.trans (hb1'.mono hb.size)
          go_wp2_with fail
          refine (fit_want 6 _ false none 0 0 _ (by omega) rfl).mono ?_
          rintro e w4 ⟨rfl, hb4'⟩
          have hb4 := hb1.trans (hb4'.mono hb1.size)
          go_wp2_with fail
          rw [HNN.out]
          refine (square_any a n0 c0 rows0 N0 _ HL.out hn0 (by omega) (HR.out.below hb4) HS.out).mono ?_
          rintro e w5 ⟨p5, c5, rfl, hsq5, hb5'⟩
          have hb5 := hb4.trans (hb5'.mono hb4.size)
          go_wp2_with fail
          go_roundg (2 - (j + 1))
          case measure => rw [HGK.out]; omega
          case rel => exact ⟨j + 1, p5, N0, c5, sqF rows0 N0 N0, by omega, rfl, by go_num, rfl, by rw [(sqRows_ok rows0 N0 (by omega)).2.1], by omega, sqF_len _ _ _, (sqRows_ok rows0 N0 (by omega)).1, hsq5.rd, hb5⟩
      · have hji : ¬ ((j : Int) < 2) := by omega
        go_wp2_with fail
        refine (awake_any _ (HT.out.below hb) (HE.out.below hb)).mono ?_
        rintro e w6 ⟨rfl, hb6'⟩
        have hb6 := hb.trans (hb6'.mono hb.size)
        go_wp2_with fail
        go_ret
        exact ⟨rfl, hb6⟩
  · have hwe : wE rows = 0 := by unfold wE; rw [hall]; rfl
    have HALL := Lib.hid hall
    rw [hwe]
    clear hall hwe
    go_wp2_with fail
    go_loopg [6, 10] n (fun gk v6 v10 wx => ∃ i : Nat, i ≤ n ∧ gk = n - i ∧ v10 = .int .i64 (i : Int) ∧ v6 = .int .i64 (if okT n (rows.take i) then 0 else 1) ∧ wc = wx)
    case atStart => exact ⟨0, Nat.zero_le _, rfl, rfl, rfl, rfl⟩
    case round =>
      obtain ⟨i, hi, hgk, rfl, rfl, hwx⟩ := hrel
      subst hwx
      generalize hV : (if okT n (rows.take i) then (0 : Int) else 1) = V
      have HV := Lib.hid hV
      clear hV
      have HGK := Lib.hid hgk
      clear hgk
      by_cases hlt : i < n
      · have hli : (i : Int) < (n : Int) := by omega
        have hil : i < rows.length := by rw [HRL.out]; exact hlt
        obtain ⟨b, off, q, cq, rfl, hbl, hcell, _⟩ := HRD.out i _ (List.getElem?_eq_getElem hil)
        have hok := okT_snoc (n := n) hil
        generalize rows[i] = row at *
        obtain ⟨L, hL⟩ : ∃ L, row.length = L := ⟨_, rfl⟩
        rw [hL] at hcell hok
        by_cases h1 : L = n
        · by_cases h6 : n ≤ 6
          · have hok' : okT n (rows.take (i + 1)) = okT n (rows.take i) := by rw [hok]; simp [h1, h6]
            have HOK := Lib.hid hok'
            have h6i : ¬ (6 : Int) < (n : Int) := by omega
            subst h1
            clear hok hok'
            go_wp2_with fail
            go_roundg (L - (i + 1))
            case measure => rw [HGK.out]; omega
            case rel => exact ⟨i + 1, by omega, rfl, by go_num, by rw [HOK.out, HV.out], rfl⟩
          · have hok' : okT n (rows.take (i + 1)) = false := by rw [hok]; simp [h1, h6]
            have HOK := Lib.hid hok'
            have h6i : (6 : Int) < (n : Int) := by omega
            subst h1
            clear hok hok'
            go_wp2_with fail
            go_roundg (L - (i + 1))
            case measure => rw [HGK.out]; omega
            case rel => exact ⟨i + 1, by omega, rfl, by go_num, by rw [HOK.out]; rfl, rfl⟩
        · have hok' : okT n (rows.take (i + 1)) = false := by rw [hok]; simp [h1]
          have HOK := Lib.hid hok'
          have h1i : ¬ (L : Int) = (n : Int) := by omega
          have h1b : ((L : Int) == (n : Int)) = false := by simpa using h1i
          clear hok hok'
          go_wp2_with fail
          go_roundg (n - (i + 1))
          case measure => rw [HGK.out]; omega
          case rel => exact ⟨i + 1, by omega, rfl, by go_num, by rw [HOK.out]; rfl, rfl⟩
      · have hli : ¬ (i : Int) < (n : Int) := by omega
        have hww : V = wantE rows := by
          rw [← HV.out, List.take_of_length_le (by rw [HRL.out]; omega)]; exact okT_want HRL.out HALL.out
        rw [hww]
        clear hww
        go_wp2_with fail
        go_loopg [5, 6, 11] 2 (fun gk v5 v6 v11 wx => ∃ (j : Nat) (p : Option Addr) (n c : Nat) (rows : List (List (List UInt8))), j ≤ 2 ∧ gk = 2 - j ∧ v11 = .int .i64 (j : Int) ∧ v5 = .slice p n c ∧ v6 = .int .i64 (wantE rows) ∧ n ≤ 8 ∧ Hid (rows.length = n) ∧ Hid (Rows8 rows) ∧ Hid (RdLL wx p rows) ∧ Below w.heap.size w wx)
        case atStart => exact ⟨0, p, n, c, rows, by omega, rfl, rfl, rfl, rfl, hn8, HRL, HR8, HRD, hbc⟩
        case round =>
          obtain ⟨j, p, n, c, rows, hj, hgk, rfl, rfl, rfl, hn8, HRL, HR8, HRD, hb⟩ := hrel
          have HGK := Lib.hid hgk
          clear hgk
          by_cases hlt : j < 2
          · have hji : (j : Int) < 2 := by omega
            have HDET := Lib.hid (detL_any p n c rows wr HRL.out (by omega) HRD.out (by intro r hr; obtain ⟨h1, h2⟩ := HR8.out.2 r hr; exact ⟨by omega, fun s hs => by have := h2 s hs; omega⟩) (HT.out.below hb))
            rcases wantE_cases rows with hw | hw | hw
            · have HW := Lib.hid hw
              obtain ⟨hallr, hn6, hsq⟩ := wantE_zero hw
              have HALLR := Lib.hid hallr
              have HSQ := Lib.hid hsq
              have hn6' : n ≤ 6 := by rw [← HRL.out]; exact hn6
              rw [hw]
              clear hallr hsq hn6
              go_wp2_with fail
              refine HDET.out.mono ?_
              rintro e w1 ⟨_, h2, hb1'⟩
              obtain rfl := h2 HW.out
              clear h2 hw
              obtain ⟨z, hz⟩ : ∃ z, detZ (valRows rows) = z := ⟨_, rfl⟩
              rw [hz]
              have HZ := Lib.hid hz
              clear hz
              have hb1 := hb.trans (hb1'.mono hb.size)
              go_wp2_with fail
              refine (numbers_any p n c rows _ HRL.out hn8 (HRD.out.below hb1') (small_of HR8.out HALLR.out)).mono ?_
              rintro e w2 ⟨p2, c2, rfl, hrm, hb2'⟩
              have hb2 := hb1.trans (hb2'.mono hb1.size)
              go_wp2_with fail
              refine (rdetL_any p2 n c2 rows _ HRL.out hn6' (by intro r hr; rw [← HRL.out]; exact HSQ.out r hr) hrm).mono ?_
              rintro e w3 ⟨ng3, p3, n3, c3, xs3, rfl, h3, hn3, hb3'⟩
              rw [HZ.out] at h3
              have hdl : DL n ≤ 500 := by unfold DL; omega
              have hb3 := hb2.trans (hb3'.mono hb2.size)
              have hsm := h3.small
              have H3 := Lib.hid h3
              have HSM := Lib.hid hsm
              clear h3 hsm
              go_wp2_with fail
              refine (fit_value ng3 p3 n3 c3 xs3 z _ (by omega) H3.out (Nat.le_trans (itoa_len (k := 4 * n3 + 1) (by omega) (Nat.lt_of_lt_of_le HSM.out (Nat.pow_le_pow_right (by decide) (by omega)))) (by omega))).mono ?_
              rintro e w4 ⟨rfl, hb4'⟩
              have hb4 := hb3.trans (hb4'.mono hb3.size)
              have hb04 : Below wr.heap.size wr w4 := ((hb1'.trans (hb2'.mono hb1'.size)).trans (hb3'.mono (Nat.le_trans hb1'.size hb2'.size))).trans (hb4'.mono (Nat.le_trans hb1'.size (Nat.le_trans hb2'.size hb3'.size)))
              go_wp2_with fail
              rw [HNN.out]
              refine (square_any a n0 c0 rows0 N0 _ HL.out hn0 (by omega) (HR.out.below hb4) HS.out).mono ?_
              rintro e w5 ⟨p5, c5, rfl, hsq5, hb5'⟩
              have hb5 := hb4.trans (hb5'.mono hb4.size)
              go_wp2_with fail
              go_roundg (2 - (j + 1))
              case measure => rw [HGK.out]; omega
              case rel => exact ⟨j + 1, p5, N0, c5, sqF rows0 N0 N0, by omega, rfl, by go_num, rfl, by rw [(sqRows_ok rows0 N0 (by omega)).2.1], by omega, sqF_len _ _ _, (sqRows_ok rows0 N0 (by omega)).1, hsq5.rd, hb5⟩
            · have HW := Lib.hid hw
              rw [hw]
              go_wp2_with fail
              refine HDET.out.mono ?_
              rintro e w1 ⟨h1, _, hb1'⟩
              obtain rfl := h1 (by rw [HW.out]; decide)
              clear h1
              rw [HW.out]
              have hb1 := hb.trans (hb1'.mono hb.size)
              go_wp2_with fail
              refine (fit_want 1 _ false none 0 0 _ (by omega) rfl).mono ?_
              rintro e w4 ⟨rfl, hb4'⟩
              have hb4 := hb1.trans (hb4'.mono hb1.size)
              go_wp2_with fail
              rw [HNN.out]
              refine (square_any a n0 c0 rows0 N0 _ HL.out hn0 (by omega) (HR.out.below hb4) HS.out).mono ?_
              rintro e w5 ⟨p5, c5, rfl, hsq5, hb5'⟩
              have hb5 := hb4.trans (hb5'.mono hb4.size)
              go_wp2_with fail
              go_roundg (2 - (j + 1))
              case measure => rw [HGK.out]; omega
              case rel => exact ⟨j + 1, p5, N0, c5, sqF rows0 N0 N0, by omega, rfl, by go_num, rfl, by rw [(sqRows_ok rows0 N0 (by omega)).2.1], by omega, sqF_len _ _ _, (sqRows_ok rows0 N0 (by omega)).1, hsq5.rd, hb5⟩
            · have HW := Lib.hid hw
              rw [hw]
              go_wp2_with fail
              refine HDET.out.mono ?_
              rintro e w1 ⟨h1, _, hb1'⟩
              obtain rfl := h1 (by rw [HW.out]; decide)
              clear h1
              rw [HW.out]
              have hb1 := hb.trans (hb1'.mono hb.size)
              go_wp2_with fail
              refine (fit_want 6 _ false none 0 0 _ (by omega) rfl).mono ?_
              rintro e w4 ⟨rfl, hb4'⟩
              have hb4 := hb1.trans (hb4'.mono hb1.size)
              go_wp2_with fail
              rw [HNN.out]
              refine (square_any a n0 c0 rows0 N0 _ HL.out hn0 (by omega) (HR.out.below hb4) HS.out).mono ?_
              rintro e w5 ⟨p5, c5, rfl, hsq5, hb5'⟩
              have hb5 := hb4.trans (hb5'.mono hb4.size)
              go_wp2_with fail
              go_roundg (2 - (j + 1))
              case measure => rw [HGK.out]; omega
              case rel => exact ⟨j + 1, p5, N0, c5, sqF rows0 N0 N0, by omega, rfl, by go_num, rfl, by rw [(sqRows_ok rows0 N0 (by omega)).2.1], by omega, sqF_len _ _ _, (sqRows_ok rows0 N0 (by omega)).1, hsq5.rd, hb5⟩
          · have hji : ¬ ((j : Int) < 2) := by omega
            go_wp2_with fail
            refine (awake_any _ (HT.out.below hb) (HE.out.below hb)).mono ?_
            rintro e w6 ⟨rfl, hb6'⟩
            have hb6 := hb.trans (hb6'.mono hb.size)
            go_wp2_with fail
            go_ret
            exact ⟨rfl, hb6⟩

end Go.Proofs.YtapfkinpdinbgaaDoor
