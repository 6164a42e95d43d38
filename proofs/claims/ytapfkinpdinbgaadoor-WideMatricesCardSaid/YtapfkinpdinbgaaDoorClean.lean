/-
  A number out of any text.
-/
import Derived.Test.YtapfkinpdinbgaaDoorRefParse
namespace Go.Proofs.YtapfkinpdinbgaaDoor
open Go.RowKit

set_option maxHeartbeats 1000000 in
theorem ris_any (l : List UInt8) (w : World) (hl : l.length ≤ 1000000000) :
    Calls Tryd.prog 14 #[.string ⟨l.toArray⟩] w fun e w' => e = .returned (.bool (numB l)) ∧ w' = w := by
  have hsz : (⟨l.toArray⟩ : ByteArray).size = l.length := by show l.toArray.size = _; simp
  have HM := Lib.hid (fun W => minus_any l W)
  have HP := Lib.hid (fun W => plain_any l W (by unfold maxLen; omega))
  cases hp : plainB l
  · have hn : numB l = false := by unfold numB; rw [hp]; rfl
    rw [hn]
    have HPP := Lib.hid hp
    clear hp hn
    go_enter Tryd.func14, Tryd.ntmps14
    go_wp2_with (go_at_call 44; refine (HP.out _).mono ?_; rintro e w' ⟨rfl, rfl⟩; rw [HPP.out])
    go_ret
    exact ⟨rfl, rfl⟩
  · have hd : (digitsOf l).length = l.length - (if isNeg l then 1 else 0) := by
      cases l with
      | nil => rfl
      | cons c t =>
        by_cases h : c = 45
        · subst h; simp [digitsOf, isNeg]
        · simp [digitsOf, isNeg, h]
    have hpos : (if isNeg l then 1 else 0) ≤ l.length := by
      cases l with
      | nil => simp [plainB, digitsOf] at hp
      | cons c t => split <;> simp
    have hn : numB l = decide ((digitsOf l).length ≤ 2000) := by unfold numB; rw [hp]; rfl
    rw [hn]
    have HPP := Lib.hid hp
    obtain ⟨mi, hmi⟩ : ∃ mi : Nat, (if isNeg l then 1 else 0) = mi := ⟨_, rfl⟩
    have hmi' : (if isNeg l then 1 else 0 : Int) = (mi : Int) := by rw [← hmi]; split <;> rfl
    rw [hmi] at hd hpos
    have HMI := Lib.hid hmi'
    have HD := Lib.hid hd
    have hm1 : mi ≤ 1 := by rw [← hmi]; split <;> omega
    clear hp hn hmi hmi' hd
    by_cases hle : (l.length : Int) - (mi : Int) ≤ 2000
    all_goals
      go_enter Tryd.func14, Tryd.ntmps14
      go_wp2_with (first
        | (go_at_call 44; refine (HP.out _).mono ?_; rintro e w' ⟨rfl, rfl⟩; rw [HPP.out])
        | (go_at_call 45; refine (HM.out _).mono ?_; rintro e w' ⟨rfl, rfl⟩; rw [HMI.out]))
      go_ret
      refine ⟨ret_val ?_, rfl⟩
      rw [HD.out]
      congr 1
      simp <;> omega

theorem take_bytes (l : List UInt8) (n : Nat) : (⟨l.toArray⟩ : ByteArray).extract 0 n = ⟨(l.take n).toArray⟩ := by
  apply ByteArray.ext
  rw [ByteArray.data_extract]
  show l.toArray.extract 0 n = _
  simp

theorem run_cut (l : List UInt8) (n : Nat) (W : World) (h : n ≤ l.length) : (Instr.sliceAt 9 (.string ⟨l.toArray⟩) none (some (.int .i64 (n : Int))) none).run Tryd.prog W = .ok (.string ⟨(l.take n).toArray⟩) W := by
  have hsz : (⟨l.toArray⟩ : ByteArray).size = l.length := by show l.toArray.size = _; simp
  rw [run_sliceAt_string W 9 _ _ _ _ Tryd.underlying9, run_slice_string_h W 9 _ Tryd.underlying9 .i64 (n : Int) (by omega) (by rw [hsz]; omega)]
  rw [Int.toNat_natCast, take_bytes]

set_option maxHeartbeats 1000000 in
theorem part_any (l : List UInt8) (most : Nat) (w : World) (hl : l.length ≤ 9223372036854775807) (hm : most ≤ 1000000) :
    Calls Tryd.prog 11 #[.string ⟨l.toArray⟩, .int .i64 (most : Int)] w fun e w' => e = .returned (.string ⟨(l.take most).toArray⟩) ∧ w' = w := by
  have hsz : (⟨l.toArray⟩ : ByteArray).size = l.length := by show l.toArray.size = _; simp
  have hmin : min (l.length : Int) (most : Int) = ((min l.length most : Nat) : Int) := by omega
  have hcut := run_cut l (min l.length most) w (Nat.min_le_left _ _)
  have htk : l.take (min l.length most) = l.take most := by
    by_cases h : most ≤ l.length
    · rw [Nat.min_eq_right h]
    · rw [Nat.min_eq_left (by omega), List.take_of_length_le (Nat.le_refl _), List.take_of_length_le (by omega)]
  rw [htk] at hcut
  have hlt : min l.length most ≤ l.length := Nat.min_le_left _ _
  generalize min l.length most = n at hmin hcut hlt
  clear htk
  go_enter Tryd.func11, Tryd.ntmps11
  go_wp2_with fail
  go_ret
  exact ⟨rfl, rfl⟩

end Go.Proofs.YtapfkinpdinbgaaDoor

namespace Go.Proofs.YtapfkinpdinbgaaDoor
open Go.RowKit

/-- What has been written: digits, no 0 in front. -/
def ClnI (most i : Nat) (o : List UInt8) : Prop := o.all isDg = true ∧ o.head? ≠ some 48 ∧ o.length ≤ most ∧ o.length ≤ i

theorem ClnI.skip {most i : Nat} {o : List UInt8} (h : ClnI most i o) : ClnI most (i + 1) o := ⟨h.1, h.2.1, h.2.2.1, by have := h.2.2.2; omega⟩

theorem ClnI.push {most i d : Nat} {o : List UInt8} (h : ClnI most i o) (hd : d < 10) (hlt : o.length < most) (hp : 0 < d ∨ 0 < o.length) : ClnI most (i + 1) (o ++ [UInt8.ofNat (48 + d)]) := by
  obtain ⟨h1, h2, h3, h4⟩ := h
  have ht : (UInt8.ofNat (48 + d)).toNat = 48 + d := by simp; omega
  refine ⟨?_, ?_, by simp; omega, by simp; omega⟩
  · rw [List.all_append, h1]; simp [isDg, ht]; omega
  · cases o with
    | nil =>
      have hp' : 0 < d := by simpa using hp
      rw [List.nil_append]
      intro e
      have h5 := congrArg UInt8.toNat (Option.some.inj (show some (UInt8.ofNat (48 + d)) = some 48 from e))
      rw [ht] at h5
      have h6 : (48 : UInt8).toNat = 48 := rfl
      omega
    | cons c t => simpa using h2

/-- A number of at most so many digits. -/
def CleanIs (most : Nat) (l : List UInt8) : Prop := numB l = true ∧ (digitsOf l).length ≤ most ∧ l.length ≤ most + 1

theorem clean_zero {most : Nat} (h : 1 ≤ most) : CleanIs most [48] := ⟨by decide, by simp [digitsOf]; omega, by simp⟩

theorem clean_of {most i : Nat} {o : List UInt8} (h : ClnI most i o) (hm : most ≤ 2000) (hne : o ≠ []) : CleanIs most o ∧ CleanIs most (45 :: o) := by
  obtain ⟨h1, h2, h3, _⟩ := h
  cases o with
  | nil => exact absurd rfl hne
  | cons c t =>
    have hc : c ≠ 45 := by
      rintro rfl
      rw [List.all_cons] at h1
      simp [isDg] at h1
    have hd : digitsOf (c :: t) = c :: t := by simp [digitsOf, hc]
    have hd2 : digitsOf (45 :: c :: t) = c :: t := by simp [digitsOf]
    have h48 : ((c :: t).head? != some 48) = true := by simpa using h2
    refine ⟨⟨?_, by rw [hd]; exact h3, by omega⟩, ⟨?_, by rw [hd2]; exact h3, by simp at h3 ⊢; omega⟩⟩
    · unfold numB plainB; rw [hd, h1, h48]; simp at h3 ⊢; omega
    · unfold numB plainB; rw [hd2, h1, h48]; simp at h3 ⊢; omega

set_option maxRecDepth 100000 in
set_option maxHeartbeats 2000000 in
theorem clean_any (l : List UInt8) (most : Nat) (w : World) (hl : l.length ≤ 9223372036854775807) (hm1 : 1 ≤ most) (hm : most ≤ 2000) :
    Calls Tryd.prog 17 #[.string ⟨l.toArray⟩, .int .i64 (most : Int)] w fun e w' => (∃ l', CleanIs most l' ∧ e = .returned (.string ⟨l'.toArray⟩)) ∧ Below w.heap.size w w' := by
  have hsz : (⟨l.toArray⟩ : ByteArray).size = l.length := by show l.toArray.size = _; simp
  obtain ⟨L, hL⟩ : ∃ L, l.length = L := ⟨_, rfl⟩
  rw [hL] at hl hsz
  have HL := Lib.hid hL
  clear hL
  go_enter Tryd.func17, Tryd.ntmps17
  go_wp2_with fail
  go_loopw [5, 6] (fun v5 v6 wr => ∃ (i : Nat) (o : List UInt8), i ≤ L ∧ v6 = .int .i64 (i : Int) ∧ Hid (ClnI most i o) ∧ GrB wr w.heap.size v5 o ∧ w.heap.size ≤ wr.heap.size ∧ Below w.heap.size w wr) (fun _ v6 _ => L - (Go.RowKit.intOf v6).toNat)
  case atStart => exact ⟨0, [], Nat.zero_le _, rfl, ⟨rfl, by simp, Nat.zero_le _, Nat.le_refl _⟩, GrB.nil _ _, Nat.le_refl _, Below.refl _ _⟩
  case round =>
    obtain ⟨i, o, hi, rfl, HC, hgr, hsz2, hb⟩ := hrel
    obtain ⟨pp, cp, rfl⟩ := hgr.form
    have hol := HC.out.2.2.1
    by_cases hgo : i < L ∧ o.length < most
    · obtain ⟨hlt, hom⟩ := hgo
      have his : i < (⟨l.toArray⟩ : ByteArray).size := by rw [hsz]; exact hlt
      obtain ⟨bb, hbb⟩ : ∃ bb : Nat, ((⟨l.toArray⟩ : ByteArray)[i]'his).toNat = bb := ⟨_, rfl⟩
      have hb256 : bb < 256 := by rw [← hbb]; exact UInt8.toNat_lt _
      have hmod : (bb : Int) % 10 = ((bb % 10 : Nat) : Int) := by omega
      have hd10 : bb % 10 < 10 := Nat.mod_lt _ (by decide)
      generalize bb % 10 = d at hmod hd10
      have hd48 : (48 : Int) + (d : Int) = ((48 + d : Nat) : Int) := by omega
      have hil : (i : Int) < (L : Int) := by omega
      have hol' : (o.length : Int) < (most : Int) := by omega
      have HPU := fun h => HC.out.push hd10 hom h
      have HPH := Lib.hid HPU
      have HSK := Lib.hid HC.out.skip
      clear HPU
      have hd256 : 48 + d < 256 := by omega
      by_cases hz : d = 0 ∧ o.length = 0
      · obtain ⟨rfl, ho0⟩ := hz
        obtain rfl : o = [] := List.length_eq_zero_iff.1 ho0
        clear hd48 hd256
        have hl0 : ([] : List UInt8).length = 0 := rfl
        go_wp2_with fail
        go_roundw
        case rel => exact ⟨i + 1, [], by omega, by go_num, HSK.out, hgr, hsz2, hb⟩
        case measure => simp [Go.RowKit.intOf]; omega
      · have hpp : 0 < d ∨ 0 < o.length := by omega
        have HPP := Lib.hid (HPH.out hpp)
        by_cases hd0 : d = 0
        · subst hd0
          have hl0 : 0 < o.length := by omega
          have HPP' : Hid (ClnI most (i + 1) (o ++ [UInt8.ofNat 48])) := HPP.out
          clear hz hpp hd48 hd256
          go_wp2_with (at_builtin; refine pushB_law rfl _ _ rfl rfl hgr 48 (by decide) rfl (by omega) hsz2 ?_; intro v' w' hgr' hb')
          go_roundw
          case rel => exact ⟨i + 1, o ++ [UInt8.ofNat 48], by omega, by go_num, HPP'.out, hgr', Nat.le_trans hsz2 hb'.size, hb.trans hb'⟩
          case measure => simp [Go.RowKit.intOf]; omega
        · have hc48 : (48 : Int) < ((48 + d : Nat) : Int) := by omega
          generalize h8 : 48 + d = d8 at hd48 hd256 HPP hc48
          have hd0' : 0 < d := by omega
          clear hz hpp hd0 h8
          go_wp2_with (at_builtin; refine pushB_law rfl _ _ rfl rfl hgr d8 hd256 rfl (by omega) hsz2 ?_; intro v' w' hgr' hb')
          go_roundw
          case rel => exact ⟨i + 1, o ++ [UInt8.ofNat d8], by omega, by go_num, HPP.out, hgr', Nat.le_trans hsz2 hb'.size, hb.trans hb'⟩
          case measure => simp [Go.RowKit.intOf]; omega
    · have hfin : ∀ e W, e = Ending.returned (.string ⟨(if o.length = 0 then [48] else o).toArray⟩) ∨ (o.length ≠ 0 ∧ e = Ending.returned (.string ⟨(45 :: o).toArray⟩)) → Below w.heap.size w W → ((∃ l', CleanIs most l' ∧ e = .returned (.string ⟨l'.toArray⟩)) ∧ Below w.heap.size w W) := by
        intro e W he hW
        refine ⟨?_, hW⟩
        by_cases ho : o = []
        · subst ho
          rcases he with rfl | ⟨h, _⟩
          · exact ⟨[48], clean_zero hm1, rfl⟩
          · exact absurd rfl h
        · have ho' : o.length ≠ 0 := fun h => ho (List.length_eq_zero_iff.1 h)
          obtain ⟨c1, c2⟩ := clean_of HC.out hm ho
          rcases he with rfl | ⟨_, rfl⟩
          · rw [if_neg ho']; exact ⟨o, c1, rfl⟩
          · exact ⟨45 :: o, c2, rfl⟩
      have HFIN := Lib.hid hfin
      clear hfin
      by_cases ho0 : o.length = 0
      · by_cases hiL : i < L
        · have hom : ¬ (o.length < most) := fun h => hgo ⟨hiL, h⟩
          omega
        · have hz0 : ((o.length : Int) == 0) = true := by simp; exact List.length_eq_zero_iff.1 ho0
          have hiL' : ¬ ((i : Int) < (L : Int)) := by omega
          have HO := Lib.hid ho0
          clear hgo ho0 hiL
          go_wp2_with fail
          go_ret
          exact HFIN.out _ _ (.inl (by rw [if_pos HO.out]; rfl)) hb
      · have hz0 : ((o.length : Int) == 0) = false := by simp; intro e; exact ho0 (by rw [e]; rfl)
        have hL0 : 0 < L := by have := HC.out.2.2.2; omega
        have hls : 0 < (⟨l.toArray⟩ : ByteArray).size := by rw [hsz]; exact hL0
        obtain ⟨b0, hb0⟩ : ∃ b0 : Nat, ((⟨l.toArray⟩ : ByteArray)[0]'hls).toNat = b0 := ⟨_, rfl⟩
        have hb256 : b0 < 256 := by rw [← hb0]; exact UInt8.toNat_lt _
        have hcv := text_convert hgr (fun e => ho0 (by rw [e]; rfl))
        have HO := Lib.hid ho0
        have hmod3 : (b0 : Int) % 3 = ((b0 % 3 : Nat) : Int) := by omega
        generalize b0 % 3 = r3 at hmod3
        have hov : ¬ (9223372036854775807 < 1 + o.length) := by omega
        by_cases hi : i < L
        · have hno : ¬ (o.length < most) := fun h => hgo ⟨hi, h⟩
          have hom : ¬ ((o.length : Int) < (most : Int)) := by omega
          have hiL' : (i : Int) < (L : Int) := by omega
          clear hgo ho0 hno
          by_cases h3 : r3 = 0
          · subst h3
            go_wp2_with fail
            go_ret
            exact HFIN.out _ _ (.inr ⟨HO.out, ret_val (congrArg Value.string (by apply ByteArray.ext; simp))⟩) hb
          · have h3z : ((r3 : Int) == 0) = false := by simp; omega
            go_wp2_with fail
            go_ret
            exact HFIN.out _ _ (.inl (by rw [if_neg HO.out]; rfl)) hb
        · have hiL' : ¬ ((i : Int) < (L : Int)) := by omega
          clear hgo ho0
          by_cases h3 : r3 = 0
          · subst h3
            go_wp2_with fail
            go_ret
            exact HFIN.out _ _ (.inr ⟨HO.out, ret_val (congrArg Value.string (by apply ByteArray.ext; simp))⟩) hb
          · have h3z : ((r3 : Int) == 0) = false := by simp; omega
            go_wp2_with fail
            go_ret
            exact HFIN.out _ _ (.inl (by rw [if_neg HO.out]; rfl)) hb

end Go.Proofs.YtapfkinpdinbgaaDoor
