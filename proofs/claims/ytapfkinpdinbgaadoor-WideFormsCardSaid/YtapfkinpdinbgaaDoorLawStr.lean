/-
  The laws' own small functions on strings.
-/
import Derived.Test.YtapfkinpdinbgaaDoorRefParse
namespace Go.Proofs.YtapfkinpdinbgaaDoor
open Go.RowKit

set_option maxHeartbeats 1000000 in
theorem ris_any (l : List UInt8) (w : World) (hl : l.length ≤ 1000000000) :
    Calls Tryd.prog 14 #[.string ⟨l.toArray⟩] w fun e w' => e = .returned (.bool (numB l)) ∧ w' = w := by
  have hsz : (⟨l.toArray⟩ : ByteArray).size = l.length := by show l.toArray.size = _; simp
  have HM := Lib.hid (fun W => minus_any l W)
  have HP := Lib.hid (fun W => plain_any l W (by unfold maxLen; omega))
  cases hp : plainB l
  · have hn : numB l = false := by unfold numB; rw [hp]; rfl
    rw [hn]
    have HPP := Lib.hid hp
    clear hp hn
    go_enter Tryd.func14, Tryd.ntmps14
    go_wp2_with (go_at_call 44; refine (HP.out _).mono ?_; rintro e w' ⟨rfl, rfl⟩; rw [HPP.out])
    go_ret
    exact ⟨rfl, rfl⟩
  · have hd : (digitsOf l).length = l.length - (if isNeg l then 1 else 0) := by
      cases l with
      | nil => rfl
      | cons c t =>
        by_cases h : c = 45
        · subst h; simp [digitsOf, isNeg]
        · simp [digitsOf, isNeg, h]
    have hpos : (if isNeg l then 1 else 0) ≤ l.length := by
      cases l with
      | nil => simp [plainB, digitsOf] at hp
      | cons c t => split <;> simp
    have hn : numB l = decide ((digitsOf l).length ≤ 2000) := by unfold numB; rw [hp]; rfl
    rw [hn]
    have HPP := Lib.hid hp
    obtain ⟨mi, hmi⟩ : ∃ mi : Nat, (if isNeg l then 1 else 0) = mi := ⟨_, rfl⟩
    have hmi' : (if isNeg l then 1 else 0 : Int) = (mi : Int) := by rw [← hmi]; split <;> rfl
    rw [hmi] at hd hpos
    have HMI := Lib.hid hmi'
    have HD := Lib.hid hd
    have hm1 : mi ≤ 1 := by rw [← hmi]; split <;> omega
    clear hp hn hmi hmi' hd
    by_cases hle : (l.length : Int) - (mi : Int) ≤ 2000
    all_goals
      go_enter Tryd.func14, Tryd.ntmps14
      go_wp2_with (first
        | (go_at_call 44; refine (HP.out _).mono ?_; rintro e w' ⟨rfl, rfl⟩; rw [HPP.out])
        | (go_at_call 45; refine (HM.out _).mono ?_; rintro e w' ⟨rfl, rfl⟩; rw [HMI.out]))
      go_ret
      refine ⟨ret_val ?_, rfl⟩
      rw [HD.out]
      congr 1
      simp <;> omega

theorem take_bytes (l : List UInt8) (n : Nat) : (⟨l.toArray⟩ : ByteArray).extract 0 n = ⟨(l.take n).toArray⟩ := by
  apply ByteArray.ext
  rw [ByteArray.data_extract]
  show l.toArray.extract 0 n = _
  simp

theorem run_cut (l : List UInt8) (n : Nat) (W : World) (h : n ≤ l.length) : (Instr.sliceAt 9 (.string ⟨l.toArray⟩) none (some (.int .i64 (n : Int))) none).run Tryd.prog W = .ok (.string ⟨(l.take n).toArray⟩) W := by
  have hsz : (⟨l.toArray⟩ : ByteArray).size = l.length := by show l.toArray.size = _; simp
  rw [run_sliceAt_string W 9 _ _ _ _ Tryd.underlying9, run_slice_string_h W 9 _ Tryd.underlying9 .i64 (n : Int) (by omega) (by rw [hsz]; omega)]
  rw [Int.toNat_natCast, take_bytes]

set_option maxHeartbeats 1000000 in
theorem part_any (l : List UInt8) (most : Nat) (w : World) (hl : l.length ≤ 9223372036854775807) (hm : most ≤ 1000000) :
    Calls Tryd.prog 11 #[.string ⟨l.toArray⟩, .int .i64 (most : Int)] w fun e w' => e = .returned (.string ⟨(l.take most).toArray⟩) ∧ w' = w := by
  have hsz : (⟨l.toArray⟩ : ByteArray).size = l.length := by show l.toArray.size = _; simp
  have hmin : min (l.length : Int) (most : Int) = ((min l.length most : Nat) : Int) := by omega
  have hcut := run_cut l (min l.length most) w (Nat.min_le_left _ _)
  have htk : l.take (min l.length most) = l.take most := by
    by_cases h : most ≤ l.length
    · rw [Nat.min_eq_right h]
    · rw [Nat.min_eq_left (by omega), List.take_of_length_le (Nat.le_refl _), List.take_of_length_le (by omega)]
  rw [htk] at hcut
  have hlt : min l.length most ≤ l.length := Nat.min_le_left _ _
  generalize min l.length most = n at hmin hcut hlt
  clear htk
  go_enter Tryd.func11, Tryd.ntmps11
  go_wp2_with fail
  go_ret
  exact ⟨rfl, rfl⟩

end Go.Proofs.YtapfkinpdinbgaaDoor
