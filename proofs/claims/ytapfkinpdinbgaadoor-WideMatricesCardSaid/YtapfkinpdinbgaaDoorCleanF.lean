/-
  The law's 'clean' as a function.
-/
import Derived.Test.YtapfkinpdinbgaaDoorClean
namespace Go.Proofs.YtapfkinpdinbgaaDoor
open Go.RowKit

def clnD (most : Nat) (o : List UInt8) (d : Nat) : List UInt8 := if o.length < most ∧ (0 < d ∨ 0 < o.length) then o ++ [UInt8.ofNat (48 + d)] else o
def clnStep (most : Nat) (o : List UInt8) (c : UInt8) : List UInt8 := clnD most o (c.toNat % 10)
def cln (most : Nat) (l : List UInt8) : List UInt8 := l.foldl (clnStep most) []
/-- What 'clean' makes of a text. -/
def cleanF (most : Nat) (l : List UInt8) : List UInt8 := if (cln most l).length = 0 then [48] else if (l.headD 0).toNat % 3 = 0 then 45 :: cln most l else cln most l

theorem cln_snoc {most : Nat} {l : List UInt8} {i : Nat} (h : i < l.length) : cln most (l.take (i + 1)) = clnStep most (cln most (l.take i)) l[i] := by
  unfold cln; rw [List.take_succ_eq_append_getElem h, List.foldl_append]; rfl
theorem clnD_full {most : Nat} {o : List UInt8} (h : most ≤ o.length) (d : Nat) : clnD most o d = o := by unfold clnD; rw [if_neg (by omega)]
theorem fold_full {most : Nat} : ∀ (l o : List UInt8), most ≤ o.length → l.foldl (clnStep most) o = o
  | [], _, _ => rfl
  | c :: l, o, h => by
    rw [List.foldl_cons]
    have : clnStep most o c = o := clnD_full h _
    rw [this]; exact fold_full l o h
theorem cln_full {most : Nat} {l : List UInt8} (i : Nat) (h : most ≤ (cln most (l.take i)).length) : cln most l = cln most (l.take i) := by
  conv => lhs; rw [← List.take_append_drop i l]
  unfold cln at *
  rw [List.foldl_append, fold_full _ _ h]

theorem clnI_of {most : Nat} (l : List UInt8) : ∀ i, i ≤ l.length → ClnI most i (cln most (l.take i))
  | 0, _ => ⟨rfl, by simp [cln], Nat.zero_le _, Nat.le_refl _⟩
  | i + 1, h => by
    have ih := clnI_of (most := most) l i (by omega)
    rw [cln_snoc (by omega)]
    unfold clnStep clnD
    split
    · rename_i hc
      exact ih.push (Nat.mod_lt _ (by decide)) hc.1 hc.2
    · exact ih.skip
theorem cleanF_is (most : Nat) (l : List UInt8) (h1 : 1 ≤ most) (hm : most ≤ 2000) : CleanIs most (cleanF most l) := by
  have h := clnI_of (most := most) l l.length (Nat.le_refl _)
  rw [List.take_length] at h
  unfold cleanF
  split
  · exact clean_zero h1
  · rename_i hne
    have hne' : cln most l ≠ [] := fun e => hne (by rw [e]; rfl)
    split
    · exact (clean_of h hm hne').2
    · exact (clean_of h hm hne').1

set_option maxRecDepth 100000 in
set_option maxHeartbeats 2000000 in
theorem clean_fn (l : List UInt8) (most : Nat) (w : World) (hl : l.length ≤ 9223372036854775807) (hm1 : 1 ≤ most) (hm : most ≤ 2000) :
    Calls Tryd.prog 17 #[.string ⟨l.toArray⟩, .int .i64 (most : Int)] w fun e w' => e = .returned (.string ⟨(cleanF most l).toArray⟩) ∧ Below w.heap.size w w' := by
  have hsz : (⟨l.toArray⟩ : ByteArray).size = l.length := by show l.toArray.size = _; simp
  obtain ⟨L, hL⟩ : ∃ L, l.length = L := ⟨_, rfl⟩
  rw [hL] at hl hsz
  have HL := Lib.hid hL
  clear hL
  go_enter Tryd.func17, Tryd.ntmps17
  go_wp2_with fail
  go_loopw [5, 6] (fun v5 v6 wr => ∃ (i : Nat) (o : List UInt8), i ≤ L ∧ v6 = .int .i64 (i : Int) ∧ Hid (ClnI most i o) ∧ Hid (o = cln most (l.take i)) ∧ GrB wr w.heap.size v5 o ∧ w.heap.size ≤ wr.heap.size ∧ Below w.heap.size w wr) (fun _ v6 _ => L - (Go.RowKit.intOf v6).toNat)
  case atStart => exact ⟨0, [], Nat.zero_le _, rfl, ⟨rfl, by simp, Nat.zero_le _, Nat.le_refl _⟩, rfl, GrB.nil _ _, Nat.le_refl _, Below.refl _ _⟩
  case round =>
    obtain ⟨i, o, hi, rfl, HC, HCO, hgr, hsz2, hb⟩ := hrel
    obtain ⟨pp, cp, rfl⟩ := hgr.form
    have hol := HC.out.2.2.1
    by_cases hgo : i < L ∧ o.length < most
    · obtain ⟨hlt, hom⟩ := hgo
      have his : i < (⟨l.toArray⟩ : ByteArray).size := by rw [hsz]; exact hlt
      obtain ⟨bb, hbb⟩ : ∃ bb : Nat, ((⟨l.toArray⟩ : ByteArray)[i]'his).toNat = bb := ⟨_, rfl⟩
      have hb256 : bb < 256 := by rw [← hbb]; exact UInt8.toNat_lt _
      have hcs : cln most (l.take (i + 1)) = clnD most o (bb % 10) := by rw [cln_snoc (show i < l.length by rw [HL.out]; exact hlt), ← HCO.out]; unfold clnStep; congr 2
      have hmod : (bb : Int) % 10 = ((bb % 10 : Nat) : Int) := by omega
      have hd10 : bb % 10 < 10 := Nat.mod_lt _ (by decide)
      generalize bb % 10 = d at hmod hd10 hcs
      have HCS := Lib.hid hcs
      clear hcs
      have hd48 : (48 : Int) + (d : Int) = ((48 + d : Nat) : Int) := by omega
      have hil : (i : Int) < (L : Int) := by omega
      have hol' : (o.length : Int) < (most : Int) := by omega
      have HPU := fun h => HC.out.push hd10 hom h
      have HPH := Lib.hid HPU
      have HSK := Lib.hid HC.out.skip
      clear HPU
      have hd256 : 48 + d < 256 := by omega
      by_cases hz : d = 0 ∧ o.length = 0
      · obtain ⟨rfl, ho0⟩ := hz
        obtain rfl : o = [] := List.length_eq_zero_iff.1 ho0
        clear hd48 hd256
        have hl0 : ([] : List UInt8).length = 0 := rfl
        go_wp2_with fail
        go_roundw
        case rel => exact ⟨i + 1, [], by omega, by go_num, HSK.out, by (show _ = _; rw [HCS.out]; unfold clnD; rw [if_neg (by simp)]), hgr, hsz2, hb⟩
        case measure => simp [Go.RowKit.intOf]; omega
      · have hpp : 0 < d ∨ 0 < o.length := by omega
        have HPP := Lib.hid (HPH.out hpp)
        by_cases hd0 : d = 0
        · subst hd0
          have hl0 : 0 < o.length := by omega
          have HPP' : Hid (ClnI most (i + 1) (o ++ [UInt8.ofNat 48])) := HPP.out
          clear hz hpp hd48 hd256
          go_wp2_with (at_builtin; refine pushB_law rfl _ _ rfl rfl hgr 48 (by decide) rfl (by omega) hsz2 ?_; intro v' w' hgr' hb')
          go_roundw
          case rel => exact ⟨i + 1, o ++ [UInt8.ofNat 48], by omega, by go_num, HPP'.out, by (show _ = _; rw [HCS.out]; unfold clnD; rw [if_pos ⟨by omega, by omega⟩]), hgr', Nat.le_trans hsz2 hb'.size, hb.trans hb'⟩
          case measure => simp [Go.RowKit.intOf]; omega
        · have hc48 : (48 : Int) < ((48 + d : Nat) : Int) := by omega
          generalize h8 : 48 + d = d8 at hd48 hd256 HPP hc48
          have hd0' : 0 < d := by omega
          have H8 := Lib.hid h8
          clear hz hpp hd0 h8
          go_wp2_with (at_builtin; refine pushB_law rfl _ _ rfl rfl hgr d8 hd256 rfl (by omega) hsz2 ?_; intro v' w' hgr' hb')
          go_roundw
          case rel => exact ⟨i + 1, o ++ [UInt8.ofNat d8], by omega, by go_num, HPP.out, by (show _ = _; rw [HCS.out]; unfold clnD; rw [if_pos ⟨by omega, by omega⟩, H8.out]), hgr', Nat.le_trans hsz2 hb'.size, hb.trans hb'⟩
          case measure => simp [Go.RowKit.intOf]; omega
    · have hfull : cln most l = o := by
        have e1 := HCO.out
        by_cases hiL : i < L
        · rw [e1]
          refine cln_full i ?_
          rw [← e1]
          omega
        · rw [e1, List.take_of_length_le (by rw [HL.out]; omega)]
      have hfin : ∀ e W, ((o.length = 0 ∧ e = Ending.returned (.string ⟨([48] : List UInt8).toArray⟩)) ∨ (o.length ≠ 0 ∧ (l.headD 0).toNat % 3 = 0 ∧ e = Ending.returned (.string ⟨(45 :: o).toArray⟩)) ∨ (o.length ≠ 0 ∧ (l.headD 0).toNat % 3 ≠ 0 ∧ e = Ending.returned (.string ⟨o.toArray⟩))) → Below w.heap.size w W → (e = .returned (.string ⟨(cleanF most l).toArray⟩) ∧ Below w.heap.size w W) := by
        intro e W he hW
        refine ⟨?_, hW⟩
        unfold cleanF
        rw [hfull]
        rcases he with ⟨h, rfl⟩ | ⟨h, h2, rfl⟩ | ⟨h, h2, rfl⟩
        · rw [if_pos h]
        · rw [if_neg h, if_pos h2]
        · rw [if_neg h, if_neg h2]
      clear hfull
      have HFIN := Lib.hid hfin
      clear hfin
      by_cases ho0 : o.length = 0
      · by_cases hiL : i < L
        · have hom : ¬ (o.length < most) := fun h => hgo ⟨hiL, h⟩
          omega
        · have hz0 : ((o.length : Int) == 0) = true := by simp; exact List.length_eq_zero_iff.1 ho0
          have hiL' : ¬ ((i : Int) < (L : Int)) := by omega
          have HO := Lib.hid ho0
          clear hgo ho0 hiL
          go_wp2_with fail
          go_ret
          exact HFIN.out _ _ (.inl ⟨HO.out, rfl⟩) hb
      · have hz0 : ((o.length : Int) == 0) = false := by simp; intro e; exact ho0 (by rw [e]; rfl)
        have hL0 : 0 < L := by have := HC.out.2.2.2; omega
        have hls : 0 < (⟨l.toArray⟩ : ByteArray).size := by rw [hsz]; exact hL0
        obtain ⟨b0, hb0⟩ : ∃ b0 : Nat, ((⟨l.toArray⟩ : ByteArray)[0]'hls).toNat = b0 := ⟨_, rfl⟩
        have hb256 : b0 < 256 := by rw [← hb0]; exact UInt8.toNat_lt _
        have hcv := text_convert hgr (fun e => ho0 (by rw [e]; rfl))
        have HO := Lib.hid ho0
        have hmod3 : (b0 : Int) % 3 = ((b0 % 3 : Nat) : Int) := by omega
        have hsg : (l.headD 0).toNat % 3 = b0 % 3 := by rw [← hb0]; cases l with | nil => exact absurd hls (Nat.lt_irrefl 0) | cons c t => rfl
        generalize b0 % 3 = r3 at hmod3 hsg
        have HSG := Lib.hid hsg
        clear hsg
        have hov : ¬ (9223372036854775807 < 1 + o.length) := by omega
        by_cases hi : i < L
        · have hno : ¬ (o.length < most) := fun h => hgo ⟨hi, h⟩
          have hom : ¬ ((o.length : Int) < (most : Int)) := by omega
          have hiL' : (i : Int) < (L : Int) := by omega
          clear hgo ho0 hno
          by_cases h3 : r3 = 0
          · subst h3
            go_wp2_with fail
            go_ret
            exact HFIN.out _ _ (.inr (.inl ⟨HO.out, HSG.out, ret_val (congrArg Value.string (by apply ByteArray.ext; simp))⟩)) hb
          · have HN3 := Lib.hid h3
            have h3z : ((r3 : Int) == 0) = false := by simp; omega
            go_wp2_with fail
            go_ret
            exact HFIN.out _ _ (.inr (.inr ⟨HO.out, by rw [HSG.out]; exact HN3.out, rfl⟩)) hb
        · have hiL' : ¬ ((i : Int) < (L : Int)) := by omega
          clear hgo ho0
          by_cases h3 : r3 = 0
          · subst h3
            go_wp2_with fail
            go_ret
            exact HFIN.out _ _ (.inr (.inl ⟨HO.out, HSG.out, ret_val (congrArg Value.string (by apply ByteArray.ext; simp))⟩)) hb
          · have HN3 := Lib.hid h3
            have h3z : ((r3 : Int) == 0) = false := by simp; omega
            go_wp2_with fail
            go_ret
            exact HFIN.out _ _ (.inr (.inr ⟨HO.out, by rw [HSG.out]; exact HN3.out, rfl⟩)) hb

end Go.Proofs.YtapfkinpdinbgaaDoor
