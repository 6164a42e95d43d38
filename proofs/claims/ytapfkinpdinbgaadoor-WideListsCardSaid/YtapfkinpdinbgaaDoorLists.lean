/-
  WideLists, its walk.
-/
import Derived.Test.YtapfkinpdinbgaaDoorListsA
import Derived.Test.YtapfkinpdinbgaaDoorAwake
import Derived.Deep.RegionHeld3
import Derived.Deep.CutBlock
namespace Go.Proofs.YtapfkinpdinbgaaDoor
open Go.RowKit

theorem cut_snoc {l : List (List UInt8)} {i : Nat} (hi : i < l.length) : (l.take (i + 1)).map (List.take 60) = (l.take i).map (List.take 60) ++ [l[i].take 60] := by
  rw [List.take_succ_eq_append_getElem hi, List.map_append]; rfl
theorem sum_snoc {l : List (List UInt8)} {i : Nat} (hi : i < l.length) : sumZ ((l.take (i + 1)).map strV) = sumZ ((l.take i).map strV) + strV l[i] := by
  rw [List.take_succ_eq_append_getElem hi, List.map_append]
  exact sumZ_snoc _ _

theorem GrS.form' {w : World} {base : Nat} {v : Value} {ls : List (List UInt8)} (h : GrS w base v ls) : ∃ p m c, v = .slice p m c ∧ Hid (ls.length = m) := by
  obtain ⟨p, c, e, _, _⟩ := h.rd
  exact ⟨p, ls.length, c, e, rfl⟩

set_option maxRecDepth 100000 in
set_option maxHeartbeats 8000000 in
theorem wideLists_walk (a : Option Addr) (n c : Nat) (l : List (List UInt8)) (w : World) (hl : l.length = n) (hn : n ≤ 9223372036854775807) (hr : RdL w a l) (hs : ∀ s ∈ l, s.length ≤ 9223372036854775807) (htab : Tab w) (herr : ErrLaid w) :
    Calls Tryd.prog 6 #[.slice a n c] w fun e w' => e = .returned (.bool true) ∧ Below w.heap.size w w' := by
  have HT := Lib.hid htab
  have HE := Lib.hid herr
  have HL := Lib.hid hl
  have HR := Lib.hid hr
  have HS := Lib.hid hs
  clear htab herr hl hr hs
  go_enter Tryd.func6, Tryd.ntmps6
  go_upto_block 0 with fail
  go_cut [3, 4] from 18 to 35 (fun v3 v4 wx => ∃ (p3 : Option Addr) (m c3 : Nat) (ls : List (List UInt8)), v3 = .slice p3 m c3 ∧ Hid (ls.length = m) ∧ GrS wx w.heap.size v3 ls ∧ m ≤ 12 ∧ Hid (∀ s ∈ ls, s.length ≤ 60) ∧ w.heap.size ≤ wx.heap.size ∧ Below w.heap.size w wx)
  case first =>
    go_wp2_with fail
    go_loopg [3, 4] 12 (fun gk v3 v4 wr => ∃ (i : Nat) (p3 : Option Addr) (m c3 : Nat), v3 = .slice p3 m c3 ∧ Hid (((l.take i).map (List.take 60)).length = m) ∧ m ≤ 12 ∧ i ≤ n ∧ i ≤ 12 ∧ gk = 12 - i ∧ v4 = .int .i64 (i : Int) ∧ GrS wr w.heap.size v3 ((l.take i).map (List.take 60)) ∧ w.heap.size ≤ wr.heap.size ∧ Below w.heap.size w wr)
    case atStart => exact ⟨0, none, 0, 0, rfl, rfl, by omega, Nat.zero_le _, Nat.zero_le _, rfl, rfl, GrS.nil _ _, Nat.le_refl _, Below.refl _ _⟩
    case round =>
      obtain ⟨i, p3, m, c3, rfl, HM, hm12, hi, hi12, hgk, rfl, hgr, hsz, hb⟩ := hrel
      have HGK := Lib.hid hgk
      clear hgk
      by_cases hgo : i < n ∧ i < 12
      · obtain ⟨hlt, h12⟩ := hgo
        have hl12 : (i : Int) < 12 := by omega
        have hil : i < l.length := by rw [HL.out]; exact hlt
        obtain ⟨b, off, rfl, hbl, hcell⟩ := (HR.out.below hb) i _ (List.getElem?_eq_getElem hil)
        have hsl := HS.out _ (List.getElem_mem hil)
        have hsn := cut_snoc hil
        generalize l[i] = s at *
        have HSN := Lib.hid hsn
        clear hsn
        go_wp2_with fail
        refine (calls_flip (part_any s 60 _ hsl (by omega))).mono ?_
        rintro e w' ⟨rfl, rfl⟩
        go_wp2_with (at_builtin; refine pushS_law rfl _ _ rfl rfl hgr (s.take 60) rfl (by rw [HM.out]; omega) hsz ?_; intro v' w' hgr' hb')
        go_roundg (12 - (i + 1))
        case measure => rw [HGK.out]; omega
        case rel =>
          obtain ⟨p', m', c', hv', hm'⟩ := hgr'.form'
          have hl' := hm'.out
          rw [List.length_append, HM.out] at hl'
          have hmi := HM.out
          rw [List.length_map, List.length_take] at hmi
          exact ⟨i + 1, p', m', c', hv', by rw [HSN.out]; exact hm', by simp at hl'; omega, by omega, by omega, rfl, by go_num, by rw [HSN.out]; exact hgr', Nat.le_trans hsz hb'.size, hb.trans hb'⟩
      · have hrest : ∃ (p' : Option Addr) (m' c' : Nat) (ls : List (List UInt8)), (Value.slice p3 m c3) = .slice p' m' c' ∧ Hid (ls.length = m') ∧ GrS wr w.heap.size (.slice p3 m c3) ls ∧ m' ≤ 12 ∧ Hid (∀ s ∈ ls, s.length ≤ 60) ∧ w.heap.size ≤ wr.heap.size ∧ Below w.heap.size w wr := by
          refine ⟨p3, m, c3, _, rfl, HM, hgr, hm12, ?_, hsz, hb⟩
          intro s hs
          obtain ⟨t, _, rfl⟩ := List.mem_map.1 hs
          rw [List.length_take]; omega
        by_cases hlt : i < n
        · have h12 : ¬ (i : Int) < 12 := by omega
          clear hgo
          go_wp2_with fail
          go_meet
          case rel => exact hrest
        · clear hgo
          go_wp2_with fail
          go_meet
          case rel => exact hrest
  case rest =>
  obtain ⟨p, m, c3, ls0, rfl, HM0, hgr0, hm12, HLS, hsz0, hb0⟩ := hcut
  go_wp2_with fail
  go_loopg [5] 2 (fun gk v5 wr => ∃ (j : Nat) (ls : List (List UInt8)), j ≤ 2 ∧ gk = 2 - j ∧ v5 = .int .i64 (j : Int) ∧ GrS wr w.heap.size (.slice p m c3) ls ∧ Hid (ls.length = m) ∧ Hid (∀ s ∈ ls, s.length ≤ 60) ∧ w.heap.size ≤ wr.heap.size ∧ Below w.heap.size w wr)
  case atStart => exact ⟨0, ls0, by omega, rfl, rfl, hgr0, HM0, HLS, hsz0, hb0⟩
  case round =>
    obtain ⟨j, ls, hj, hgk, rfl, hgr, HM, HLS, hsz, hb⟩ := hrel
    have HGK := Lib.hid hgk
    clear hgk
    have hrl : RdL wr p ls := by
      obtain ⟨p', c', e, _, h⟩ := hgr.rd
      cases e; exact h
    by_cases hlt : j < 2
    · have hji : (j : Int) < 2 := by omega
      cases hall : allN ls
      · have HALL := Lib.hid hall
        have hpos := allN_pos hall
        rw [HM.out] at hpos
        have hposi : (0 : Int) < (m : Int) := by omega
        have hfo : formE (allN ls) = 6 := by rw [hall]; rfl
        have HFO := Lib.hid hfo
        clear hall hfo
        go_wp2_with fail
        refine (sumL_bad p m c3 ls _ HM.out (by omega) hrl (by intro s hs; have := HLS.out s hs; omega) HALL.out (HT.out.below hb)).mono ?_
        rintro e w1 ⟨rfl, hb1'⟩
        have hb1 := hb.trans (hb1'.mono hb.size)
        have hbA : Below w1.heap.size w1 (w1.alloc (.cells #[.bool false, .slice none 0 0] 29)) := (Below.refl _ _).alloc (Nat.le_refl _) _
        have hb2 := hb1.trans (hbA.mono hb1.size)
        have hrl1 := (hrl.below hb1').below hbA
        have hgr1 := (hgr.below hb1').below hbA
        have b8 := Boxed2.new w1 (.bool false) (.slice none 0 0) 29
        go_wp2_with fail
        refine (form_any p m c3 ls _ HM.out (by omega) hrl1 (by intro s hs; have := HLS.out s hs; omega)).mono ?_
        rintro e w' ⟨rfl, hw'⟩
        rw [HFO.out]
        generalize hWA : (w1.alloc (.cells #[.bool false, .slice none 0 0] 29)) = wA at *
        clear hWA
        subst hw'
        have k0 := b8.cell0
        have k1 := b8.cell1
        go_wp2_with fail
        go_loopg [10] 0 (fun gk v10 wx => gk = 0 ∧ v10 = .int .i64 0 ∧ wA = wx)
        case atStart => exact ⟨rfl, rfl, rfl⟩
        case round =>
        obtain ⟨-, rfl, hwx⟩ := hrel
        subst hwx
        go_wp2_with fail
        refine (fit_want 6 _ false none 0 0 _ (by omega) rfl).mono ?_
        rintro e w4 ⟨rfl, hb4'⟩
        have hb4 := hb2.trans (hb4'.mono hb2.size)
        have hgr4 := hgr1.below hb4'
        go_wp2_with fail
        go_loopg [11] m (fun gk v11 wx => ∃ (i : Nat) (ls' : List (List UInt8)), i ≤ m ∧ gk = m - i ∧ v11 = .int .i64 (i : Int) ∧ GrS wx w.heap.size (.slice p m c3) ls' ∧ Hid (ls'.length = m) ∧ Hid (∀ s ∈ ls', s.length ≤ 60) ∧ w.heap.size ≤ wx.heap.size ∧ Below w.heap.size w wx)
        case atStart => exact ⟨0, ls, Nat.zero_le _, rfl, rfl, hgr4, HM, HLS, hb4.size, hb4⟩
        case round =>
          obtain ⟨i, ls', hi, hgk2, rfl, hgr', HM', HLS', hsz', hbx⟩ := hrel
          have HGK2 := Lib.hid hgk2
          clear hgk2
          by_cases hlt2 : i < m
          · have hii : (i : Int) < (m : Int) := by omega
            have hil : i < ls'.length := by rw [HM'.out]; exact hlt2
            have hlen := HLS'.out _ (List.getElem_mem hil)
            have hrl' : RdL wr p ls' := by
              obtain ⟨p', c', e, _, h⟩ := hgr'.rd
              cases e; exact h
            obtain ⟨b, off, hpe, hbl, hcell⟩ := hrl' i _ (List.getElem?_eq_getElem hil)
            obtain ⟨g, hpg, _, _, _, _⟩ := hgr'.put hil []
            rw [hpg] at hpe
            cases hpe
            rw [Nat.zero_add] at hcell
            subst hpg
            generalize ls'[i] = s at *
            go_wp2_with fail
            refine (clean_any s 50 _ (by omega) (by omega) (by omega)).mono ?_
            rintro e w5 ⟨⟨l5, hc5, rfl⟩, hb5'⟩
            have hb5 := hbx.trans (hb5'.mono hbx.size)
            have hgr5 := hgr'.below hb5'
            obtain ⟨g', hpg', hgb, ⟨u, hu⟩, hf, hput⟩ := hgr5.put hil l5
            cases hpg'
            have hl5 : l5.length ≤ 60 := by have := hc5.2.2; omega
            go_wp2_with fail
            go_roundg (m - (i + 1))
            case measure => rw [HGK2.out]; omega
            case rel => exact ⟨i + 1, ls'.set i l5, by omega, rfl, by go_num, hput, by show _ = _; rw [List.length_set]; exact HM'.out, by
              intro s hs
              rcases List.mem_or_eq_of_mem_set hs with h | h
              · exact HLS'.out s h
              · rw [h]; exact hl5, by simp only [World.size_setCell]; exact hb5.size, hb5.setCell (by simp only; omega) _⟩
          · have hii : ¬ (i : Int) < (m : Int) := by omega
            go_wp2_with fail
            go_roundg (2 - (j + 1))
            case measure => rw [HGK.out]; omega
            case rel => exact ⟨j + 1, ls', by omega, rfl, by go_num, hgr', HM', HLS', hsz', hbx⟩
      · have HALL := Lib.hid hall
        have hfo : formE (allN ls) = 0 := by rw [hall]; rfl
        have HFO := Lib.hid hfo
        have hzb : (sumZ (ls.map strV)).natAbs < 10 ^ (60 + 2) := sum_small (fun s hs => strV_bound ((List.all_eq_true.1 hall) s hs) (HLS.out s hs)) (by rw [HM.out]; exact hm12)
        have HZB := Lib.hid hzb
        clear hall hfo hzb
        go_wp2_with fail
        refine (sumL p m c3 ls _ HM.out (by omega) hrl (by intro s hs; have := HLS.out s hs; omega) HALL.out (HT.out.below hb)).mono ?_
        rintro e w1 ⟨rfl, hb1'⟩
        obtain ⟨z, hz⟩ : ∃ z, sumZ (ls.map strV) = z := ⟨_, rfl⟩
        rw [hz]
        have HZ := Lib.hid hz
        clear hz
        have hb1 := hb.trans (hb1'.mono hb.size)
        have hbA : Below w1.heap.size w1 (w1.alloc (.cells #[.bool false, .slice none 0 0] 29)) := (Below.refl _ _).alloc (Nat.le_refl _) _
        have hb2 := hb1.trans (hbA.mono hb1.size)
        have hrl1 := (hrl.below hb1').below hbA
        have hgr1 := (hgr.below hb1').below hbA
        have b8 := Boxed2.new w1 (.bool false) (.slice none 0 0) 29
        go_wp2_with fail
        refine (form_any p m c3 ls _ HM.out (by omega) hrl1 (by intro s hs; have := HLS.out s hs; omega)).mono ?_
        rintro e w' ⟨rfl, hw'⟩
        rw [HFO.out]
        generalize hWA : (w1.alloc (.cells #[.bool false, .slice none 0 0] 29)) = wA at *
        clear hWA
        subst hw'
        go_wp2_with fail
        go_loopg [10] m (fun gk v10 wx => ∃ (i : Nat) (ng : Bool) (q : Option Addr) (k d : Nat) (ys : List Nat), i ≤ m ∧ gk = m - i ∧ v10 = .int .i64 (i : Int) ∧ Boxed2 wx w1.heap.size (.bool ng) (.slice q k d) 29 ∧ Hid (RIs wx ng q k d ys (sumZ ((ls.take i).map strV))) ∧ k ≤ 100 + i ∧ GrS wx w.heap.size (.slice p m c3) ls ∧ Below w.heap.size w wx)
        case atStart => exact ⟨0, false, none, 0, 0, [], Nat.zero_le _, rfl, rfl, b8, RIs.zero _, by omega, hgr1, hb2⟩
        case round =>
        obtain ⟨i, ng, q, k, d, ys, hi, hgk3, rfl, b8, HY, hk, hgr3, hb3⟩ := hrel
        have HGK3 := Lib.hid hgk3
        clear hgk3
        have k0 := b8.cell0
        have k1 := b8.cell1
        by_cases hlt3 : i < m
        · have hii : (i : Int) < (m : Int) := by omega
          have hil : i < ls.length := by rw [HM.out]; exact hlt3
          have hlen := HLS.out _ (List.getElem_mem hil)
          have hpl := plain_of (allN_at HALL.out hil)
          have hsn := sum_snoc hil
          have hrl3 : RdL wr p ls := by
            obtain ⟨p', c', e, _, h⟩ := hgr3.rd
            cases e; exact h
          obtain ⟨b, off, rfl, hbl, hcell⟩ := hrl3 i _ (List.getElem?_eq_getElem hil)
          generalize ls[i] = s at *
          obtain ⟨Zi, hZi⟩ : ∃ Zi, sumZ ((ls.take i).map strV) = Zi := ⟨_, rfl⟩
          have hY := HY.out
          rw [hZi] at hY hsn
          have HY := Lib.hid hY
          clear hY hZi
          have HSN := Lib.hid hsn
          have HPL := Lib.hid hpl
          clear hsn hpl
          have hbD : Below wr.heap.size wr wr.drew := (Below.refl _ _).drew
          have l8 := b8.lt
          have b8D := b8.below hbD b8.lt
          have hwl : w.heap.size ≤ w1.heap.size := hb1.size
          go_wp2_with fail
          refine wp_region_inv (by kernel_rfl) (by kernel_rfl) (SumI wr w1.heap.size ng q k d Zi (.slice (some ⟨b, off, none⟩) m c3) (i : Int) b (off + i) s (100 + (i + 1)) (fun v57 v58 v59 v60 v61 v62 v63 => { tmps := #[.slice a n c, undef, u2, .slice (some ⟨b, off, none⟩) m c3, u4, .int .i64 (j : Int), .string ⟨(outS z).toArray⟩, .int .i64 (outE z), .pointer (some ⟨w1.heap.size, 0, none⟩), .int .i64 0, .int .i64 (i : Int), u11, undef, undef, undef, undef, undef, undef, u18, u19, u20, u21, u22, u23, u24, u25, u26, u27, u28, u29, u30, u31, u32, u33, u34, u35, .int .i64 (j : Int), .bool true, u38, u39, .tuple #[.string ⟨(outS z).toArray⟩, .int .i64 (outE z)], .slice (some ⟨b, off, none⟩) m c3, .tuple #[.string ⟨(outS z).toArray⟩, .int .i64 (outE z)], .string ⟨(outS z).toArray⟩, .int .i64 (outE z), .slice (some ⟨b, off, none⟩) m c3, .int .i64 0, .int .i64 (i : Int), .slice (some ⟨b, off, none⟩) m c3, .int .i64 (m : Int), .bool true, .bool true, .int .i64 0, .bool true, .bool true, u55, u56, v57, v58, v59, v60, v61, v62, v63, u64, u65, u66, u67, u68, u69, u70, u71, u72, u73, u74, u75, u76, u77, u78, u79, u80, u81, u82, u83, undef, undef, undef, undef, undef, undef, undef, undef, undef, undef, undef, undef, undef, undef, undef, undef, undef, undef, undef, undef, undef, undef, undef, undef, undef, undef, undef, undef, undef, undef, undef, undef, undef, undef, undef, undef, undef, undef], defers := [] })) ?h0 ?step ?done
          case h0 => exact ⟨_, _, _, _, _, _, _, rfl, by simp, (fun _ => (Below.refl _ _).drew), by simp, by simp, by simp, by simp, by simp, by simp, by simp, by simp⟩
          case step =>
            rintro S o a' w' ⟨v57, v58, v59, v60, v61, v62, v63, rfl, o7, hB, f0, f1, f2, f3, f4, f5, f6, f7⟩ ho hS hd
            by_cases ho7 : o < 7
            · have hS7 : S 7 = false := by
                cases h : S 7
                · rfl
                · rw [o7 h o ho7] at hS; cases hS
              have hbw := hB hS7
              have x8 := b8.below hbw b8.lt
              have k0 := x8.cell0
              have k1 := x8.cell1
              have hcw : w'.cell? ⟨b, off + i, none⟩ = some (.string ⟨s.toArray⟩) := (hbw.cell (p := ⟨b, off + i, none⟩) hbl).trans hcell
              rcases o with _ | _ | _ | _ | _ | _ | _ | o
              · refine wpOp_list rfl ?_
                go_wp2
                exact ⟨_, _, _, _, _, _, _, rfl, (fun h => by simp [hS7] at h), (fun _ => hbw), (fun _ => rfl), (fun h => by first | rfl | exact f1 (by simpa using h)), (fun h => by first | rfl | exact f2 (by simpa using h)), (fun h => by first | rfl | exact f3 (by simpa using h)), (fun h => by first | rfl | exact f4 (by simpa using h)), (fun h h' => f5 (by simpa using h) hS7), (fun h h' => f6 (by simpa using h) hS7), (fun h => by simp [hS7] at h)⟩
              · refine wpOp_list rfl ?_
                go_wp2
                exact ⟨_, _, _, _, _, _, _, rfl, (fun h => by simp [hS7] at h), (fun _ => hbw), (fun h => by first | rfl | exact f0 (by simpa using h)), (fun _ => rfl), (fun h => by first | rfl | exact f2 (by simpa using h)), (fun h => by first | rfl | exact f3 (by simpa using h)), (fun h => by first | rfl | exact f4 (by simpa using h)), (fun h h' => f5 (by simpa using h) hS7), (fun h h' => f6 (by simpa using h) hS7), (fun h => by simp [hS7] at h)⟩
              · refine wpOp_list rfl ?_
                go_wp2
                exact ⟨_, _, _, _, _, _, _, rfl, (fun h => by simp [hS7] at h), (fun _ => hbw), (fun h => by first | rfl | exact f0 (by simpa using h)), (fun h => by first | rfl | exact f1 (by simpa using h)), (fun _ => rfl), (fun h => by first | rfl | exact f3 (by simpa using h)), (fun h => by first | rfl | exact f4 (by simpa using h)), (fun h h' => f5 (by simpa using h) hS7), (fun h h' => f6 (by simpa using h) hS7), (fun h => by simp [hS7] at h)⟩
              · simp [depsB, Region.binds] at hd
                obtain rfl := f1 (by simp [hd])
                obtain rfl := f2 (by simp [hd])
                refine wpOp_list rfl ?_
                go_wp2
                exact ⟨_, _, _, _, _, _, _, rfl, (fun h => by simp [hS7] at h), (fun _ => hbw), (fun h => by first | rfl | exact f0 (by simpa using h)), (fun h => by first | rfl | exact f1 (by simpa using h)), (fun h => by first | rfl | exact f2 (by simpa using h)), (fun _ => rfl), (fun h => by first | rfl | exact f4 (by simpa using h)), (fun h h' => f5 (by simpa using h) hS7), (fun h h' => f6 (by simpa using h) hS7), (fun h => by simp [hS7] at h)⟩
              · simp [depsB, Region.binds] at hd
                obtain rfl := f3 (by simp [hd])
                refine wpOp_list rfl ?_
                go_wp2
                exact ⟨_, _, _, _, _, _, _, rfl, (fun h => by simp [hS7] at h), (fun _ => hbw), (fun h => by first | rfl | exact f0 (by simpa using h)), (fun h => by first | rfl | exact f1 (by simpa using h)), (fun h => by first | rfl | exact f2 (by simpa using h)), (fun h => by first | rfl | exact f3 (by simpa using h)), (fun _ => rfl), (fun h h' => f5 (by simpa using h) hS7), (fun h h' => f6 (by simpa using h) hS7), (fun h => by simp [hS7] at h)⟩
              · simp [depsB, Region.binds] at hd
                obtain rfl := f4 (by simp [hd])
                refine wpOp_list rfl ?_
                go_wp2_with fail
                refine (rparse_any s _ (by omega) HPL.out).mono ?_
                rintro e w5 ⟨ng5, p5, n5, c5, xs5, rfl, hx5, hn5, hb5⟩
                go_wp2_with fail
                exact ⟨_, _, _, _, _, _, _, rfl, (fun h => by simp [hS7] at h), (fun _ => hbw.trans (hb5.mono hbw.size)), (fun h => by first | rfl | exact f0 (by simpa using h)), (fun h => by first | rfl | exact f1 (by simpa using h)), (fun h => by first | rfl | exact f2 (by simpa using h)), (fun h => by first | rfl | exact f3 (by simpa using h)), (fun h => by first | rfl | exact f4 (by simpa using h)), (fun _ _ => ⟨_, _, _, _, _, rfl, hx5, by omega⟩), (fun h h' => by obtain ⟨_, _, _, _, _, g1, g2, g3⟩ := f6 (by simpa using h) hS7; exact ⟨_, _, _, _, _, g1, g2.below hb5, g3⟩), (fun h => by simp [hS7] at h)⟩
              · simp [depsB, Region.binds] at hd
                obtain rfl := f0 (by simp [hd])
                obtain ⟨ng5, p5, n5, c5, xs5, rfl, hx5, hn5⟩ := f5 (by simp [hd]) hS7
                refine wpOp_list rfl ?_
                go_wp2_with fail
                refine (radd_any _ _ _ _ _ _ _ _ ys xs5 _ _ _ (by omega) (by omega) (HY.out.below hbw) hx5).mono ?_
                rintro e w6 ⟨ng6, p6, n6, c6, xs6, rfl, hx6, hn6, hb6⟩
                go_wp2_with fail
                exact ⟨_, _, _, _, _, _, _, rfl, (fun h => by simp [hS7] at h), (fun _ => hbw.trans (hb6.mono hbw.size)), (fun h => by first | rfl | exact f0 (by simpa using h)), (fun h => by first | rfl | exact f1 (by simpa using h)), (fun h => by first | rfl | exact f2 (by simpa using h)), (fun h => by first | rfl | exact f3 (by simpa using h)), (fun h => by first | rfl | exact f4 (by simpa using h)), (fun _ _ => ⟨_, _, _, _, _, rfl, hx5.below hb6, hn5⟩), (fun _ _ => ⟨_, _, _, _, _, rfl, hx6, by omega⟩), (fun h => by simp [hS7] at h)⟩
              · omega
            · obtain rfl : o = 7 := by simp at ho; omega
              have hbw := hB hS
              have x8 := b8.below hbw b8.lt
              have k0 := x8.cell0
              have k1 := x8.cell1
              have q0 := x8.frozen (i := 0)
              have q1 := x8.frozen (i := 1)
              simp [depsB, Region.binds] at hd
              obtain ⟨ng6, p6, n6, c6, xs6, rfl, hx6, hn6⟩ := f6 (by simp [hd]) hS
              refine wpOp_list rfl ?_
              go_wp2
              exact ⟨_, _, _, _, _, _, _, rfl, (fun _ j hj => by rcases j with _ | _ | _ | _ | _ | _ | _ | j <;> first | (simp [hd]; done) | omega), (fun h => by simp at h), (fun h => by first | rfl | exact f0 (by simp [hd])), (fun h => by first | rfl | exact f1 (by simp [hd])), (fun h => by first | rfl | exact f2 (by simp [hd])), (fun h => by first | rfl | exact f3 (by simp [hd])), (fun h => by first | rfl | exact f4 (by simp [hd])), (fun _ h => by simp at h), (fun _ h => by simp at h), (fun _ => ⟨w', _, _, _, _, _, hbw, hx6, hn6, rfl⟩)⟩
          case done =>
            rintro S a' w' hall ⟨v57, v58, v59, v60, v61, v62, v63, rfl, o7, hB, f0, f1, f2, f3, f4, f5, f6, f7⟩
            obtain ⟨w6, ng6, p6, n6, c6, xs6, hb6, hx6, hn6, rfl⟩ := f7 (hall 7 (by decide))
            have x8 := b8.below hb6 b8.lt
            have hx7 := hx6.set2 x8 ng6 (.slice p6 n6 c6)
            have x8s := x8.set (.bool ng6) (.slice p6 n6 c6)
            have hgr7 := ((hgr3.below hb6).setBox x8 (.bool ng6) (i := 0)).setBox (x8.set0 (.bool ng6)) (.slice p6 n6 c6) (i := 1)
            have hb7 := ((hb3.trans (hb6.mono hb3.size)).setCell (p := ⟨w1.heap.size, 0, none⟩) (by simp only; omega) (.bool ng6)).setCell (p := ⟨w1.heap.size, 1, none⟩) (by simp only; omega) (.slice p6 n6 c6)
            rw [← HSN.out] at hx7
            have HX7 := Lib.hid hx7
            clear hx7
            go_wp2_with fail
            go_roundg (m - (i + 1))
            case measure => rw [HGK3.out]; omega
            case rel => exact ⟨i + 1, ng6, p6, n6, c6, xs6, by omega, rfl, by go_num, x8s, HX7, by omega, hgr7, hb7⟩
        · have hii : ¬ (i : Int) < (m : Int) := by omega
          have hy3 := HY.out
          rw [List.take_of_length_le (by rw [HM.out]; omega), HZ.out] at hy3
          have HY3 := Lib.hid hy3
          clear hy3
          go_wp2_with fail
          refine (fit_value _ _ _ _ ys _ _ (by omega) HY3.out (by rw [← HZ.out]; exact Nat.le_trans (itoa_len (by omega) HZB.out) (by omega))).mono ?_
          rintro e w4 ⟨rfl, hb4'⟩
          have hb4 := hb3.trans (hb4'.mono hb3.size)
          have hgr4 := hgr3.below hb4'
          go_wp2_with fail
          go_loopg [11] m (fun gk v11 wx => ∃ (i : Nat) (ls' : List (List UInt8)), i ≤ m ∧ gk = m - i ∧ v11 = .int .i64 (i : Int) ∧ GrS wx w.heap.size (.slice p m c3) ls' ∧ Hid (ls'.length = m) ∧ Hid (∀ s ∈ ls', s.length ≤ 60) ∧ w.heap.size ≤ wx.heap.size ∧ Below w.heap.size w wx)
          case atStart => exact ⟨0, ls, Nat.zero_le _, rfl, rfl, hgr4, HM, HLS, hb4.size, hb4⟩
          case round =>
            obtain ⟨i, ls', hi, hgk2, rfl, hgr', HM', HLS', hsz', hbx⟩ := hrel
            have HGK2 := Lib.hid hgk2
            clear hgk2
            by_cases hlt2 : i < m
            · have hii : (i : Int) < (m : Int) := by omega
              have hil : i < ls'.length := by rw [HM'.out]; exact hlt2
              have hlen := HLS'.out _ (List.getElem_mem hil)
              have hrl' : RdL wr p ls' := by
                obtain ⟨p', c', e, _, h⟩ := hgr'.rd
                cases e; exact h
              obtain ⟨b, off, hpe, hbl, hcell⟩ := hrl' i _ (List.getElem?_eq_getElem hil)
              obtain ⟨g, hpg, _, _, _, _⟩ := hgr'.put hil []
              rw [hpg] at hpe
              cases hpe
              rw [Nat.zero_add] at hcell
              subst hpg
              generalize ls'[i] = s at *
              go_wp2_with fail
              refine (clean_any s 50 _ (by omega) (by omega) (by omega)).mono ?_
              rintro e w5 ⟨⟨l5, hc5, rfl⟩, hb5'⟩
              have hb5 := hbx.trans (hb5'.mono hbx.size)
              have hgr5 := hgr'.below hb5'
              obtain ⟨g', hpg', hgb, ⟨u, hu⟩, hf, hput⟩ := hgr5.put hil l5
              cases hpg'
              have hl5 : l5.length ≤ 60 := by have := hc5.2.2; omega
              go_wp2_with fail
              go_roundg (m - (i + 1))
              case measure => rw [HGK2.out]; omega
              case rel => exact ⟨i + 1, ls'.set i l5, by omega, rfl, by go_num, hput, by show _ = _; rw [List.length_set]; exact HM'.out, by
                intro s hs
                rcases List.mem_or_eq_of_mem_set hs with h | h
                · exact HLS'.out s h
                · rw [h]; exact hl5, by simp only [World.size_setCell]; exact hb5.size, hb5.setCell (by simp only; omega) _⟩
            · have hii : ¬ (i : Int) < (m : Int) := by omega
              go_wp2_with fail
              go_roundg (2 - (j + 1))
              case measure => rw [HGK.out]; omega
              case rel => exact ⟨j + 1, ls', by omega, rfl, by go_num, hgr', HM', HLS', hsz', hbx⟩
    · have hji : ¬ ((j : Int) < 2) := by omega
      have hmk := mkStrs wr
      have hO := Ones.start wr
      have hbO := hb.alloc hb.size (.cells (Go.madeCells #[.string ⟨#[]⟩] 1001) 9)
      have hsO : wr.heap.size < (wr.alloc (.cells (Go.madeCells #[.string ⟨#[]⟩] 1001) 9)).heap.size := by simp
      go_wp2_with fail
      generalize hWO : (wr.alloc (.cells (Go.madeCells #[.string ⟨#[]⟩] 1001) 9)) = wO at *
      clear hWO hmk
      obtain ⟨B, hB⟩ : ∃ B, wr.heap.size = B := ⟨_, rfl⟩
      have hwB : w.heap.size ≤ B := by rw [← hB]; exact hb.size
      rw [hB] at hO hsO ⊢
      clear hB
      go_loopg [13] 1001 (fun gk v13 wx => ∃ j : Nat, j ≤ 1001 ∧ gk = 1001 - j ∧ v13 = .int .i64 (j : Int) ∧ Ones wx B j ∧ Below w.heap.size w wx)
      case atStart => exact ⟨0, Nat.zero_le _, rfl, rfl, hO, hbO⟩
      case round =>
        obtain ⟨i, hi, hgk, rfl, hO, hbx⟩ := hrel
        have HGK := Lib.hid hgk
        clear hgk
        by_cases hlt1 : i < 1001
        · have hii : (i : Int) < 1001 := by omega
          obtain ⟨o1, ⟨u, hu⟩, hf⟩ := hO.put hlt1
          go_wp2_with fail
          go_roundg (1001 - (i + 1))
          case measure => rw [HGK.out]; omega
          case rel => exact ⟨i + 1, by omega, rfl, by go_num, o1, hbx.setCell (by simp only; omega) _⟩
        · have hii : ¬ (i : Int) < 1001 := by omega
          obtain rfl : i = 1001 := by omega
          go_wp2_with fail
          refine (ones_ok _ B 1001 hO (by omega) (HT.out.below hbx)).mono ?_
          rintro e w1 ⟨rfl, hb1'⟩
          have hb1 := hbx.trans (hb1'.mono hbx.size)
          have hO1 := hO.below hb1'
          go_wp2_with fail
          refine (ones_long _ B hO1 (HT.out.below hb1)).mono ?_
          rintro e w2 ⟨rfl, hb2'⟩
          have hb2 := hb1.trans (hb2'.mono hb1.size)
          go_wp2_with fail
          refine (awake_any _ (HT.out.below hb2) (HE.out.below hb2)).mono ?_
          rintro e w3 ⟨rfl, hb3'⟩
          have hb3 := hb2.trans (hb3'.mono hb2.size)
          go_wp2_with fail
          go_ret
          exact ⟨rfl, hb3⟩

end Go.Proofs.YtapfkinpdinbgaaDoor
