/-
  The laws' 'fit' and 'form'.
-/
import Derived.Test.YtapfkinpdinbgaaDoorRefAdd
import Derived.Test.YtapfkinpdinbgaaDoorClean
import Derived.Test.YtapfkinpdinbgaaDoorItoa
namespace Go.Proofs.YtapfkinpdinbgaaDoor
open Go.RowKit

theorem long_itoa (z : Int) : longB z = decide (2000 < ((digitsOf (Lib.itoa z)).length)) := by
  rw [(itoa_says z).2.2]
  unfold longB nd0
  split
  · rename_i h; rw [h]; decide +kernel
  · rfl

theorem minus_len (l : List UInt8) : (l.length : Int) - (if isNeg l then 1 else 0) = ((digitsOf l).length : Int) := by
  cases l with
  | nil => rfl
  | cons c t =>
    by_cases h : c = 45
    · subst h; simp [digitsOf, isNeg] <;> omega
    · simp [digitsOf, isNeg, h]

set_option maxHeartbeats 1000000 in
theorem rlong_any (neg : Bool) (p : Option Addr) (n c : Nat) (xs : List Nat) (z : Int) (w : World) (hn : n ≤ 100000000) (hx : RIs w neg p n c xs z) (hz : (Lib.itoa z).length ≤ 1000000000) :
    Calls Tryd.prog 54 #[.agg #[.bool neg, .slice p n c]] w fun e w' => e = .returned (.bool (longB z)) ∧ Below w.heap.size w w' := by
  have hb0 : Below w.heap.size w (w.alloc (.cells #[.bool neg, .slice p n c] 29)) := (Below.refl _ w).alloc (Nat.le_refl _) _
  have b0 := Boxed2.new w (.bool neg) (.slice p n c) 29
  have k0 := b0.cell0
  have k1 := b0.cell1
  have hx1 := hx.below hb0
  have hlen := minus_len (Lib.itoa z)
  have hlong := long_itoa z
  obtain ⟨mi, hmi⟩ : ∃ mi : Int, (if isNeg (Lib.itoa z) then 1 else 0 : Int) = mi := ⟨_, rfl⟩
  rw [hmi] at hlen
  have hm01 : 0 ≤ mi ∧ mi ≤ 1 := by rw [← hmi]; split <;> omega
  obtain ⟨hm0, hm1⟩ := hm01
  have HMI := Lib.hid hmi
  have HM := Lib.hid (fun W => minus_any (Lib.itoa z) W)
  generalize hit : Lib.itoa z = it at *
  have HIT := Lib.hid hit
  obtain ⟨D, hD⟩ : ∃ D, (digitsOf it).length = D := ⟨_, rfl⟩
  rw [hD] at hlen hlong
  have HLO := Lib.hid hlong
  obtain ⟨LL, hLL⟩ : ∃ LL, it.length = LL := ⟨_, rfl⟩
  have hsz : (⟨it.toArray⟩ : ByteArray).size = LL := by show it.toArray.size = _; simp [hLL]
  rw [hLL] at hlen hz
  have HLE := Lib.hid hlen
  clear hmi hit hD hlong hLL hlen
  by_cases hbig : (2000 : Int) < (LL : Int) - mi
  all_goals
    go_enter Tryd.func54, Tryd.ntmps54
    go_wp2_with fail
    refine (text_any _ _ _ _ xs _ _ (by omega) hx1).mono ?_
    rintro e w2 ⟨rfl, hb2⟩
    rw [HIT.out]
    go_wp2_with fail
    refine (HM.out _).mono ?_
    rintro e w3 ⟨rfl, hw3⟩
    subst hw3
    rw [HMI.out]
    go_wp2_with fail
    go_ret
    refine ⟨ret_val (congrArg Value.bool ?_), hb0.trans (hb2.mono hb0.size)⟩
    rw [HLO.out]
    have := HLE.out
    simp <;> omega

set_option maxHeartbeats 1000000 in
/-- An error that is asked. -/
theorem fit_want (want : Int) (v : Value) (neg : Bool) (p : Option Addr) (n c : Nat) (w : World) (hw : want ≠ 0) (hv : v = .agg #[.bool neg, .slice p n c]) :
    Calls Tryd.prog 27 #[.string ⟨#[]⟩, .int .i64 want, .int .i64 want, v] w fun e w' => e = .returned (.bool true) ∧ Below w.heap.size w w' := by
  subst hv
  have hb0 : Below w.heap.size w (w.alloc (.cells #[.bool neg, .slice p n c] 29)) := (Below.refl _ w).alloc (Nat.le_refl _) _
  have h0 : (want == 0) = false := by simpa using hw
  have h1 : (want != 0) = true := by simpa using hw
  go_enter Tryd.func27, Tryd.ntmps27
  go_wp2_with fail
  go_ret
  exact ⟨rfl, hb0⟩

set_option maxHeartbeats 1000000 in
/-- A value that is asked; one that is too long to be written. -/
theorem fit_value (neg : Bool) (p : Option Addr) (n c : Nat) (xs : List Nat) (z : Int) (w : World) (hn : n ≤ 100000000) (hx : RIs w neg p n c xs z) (hz : (Lib.itoa z).length ≤ 1000000000) :
    Calls Tryd.prog 27 #[.string ⟨(outS z).toArray⟩, .int .i64 (outE z), .int .i64 0, .agg #[.bool neg, .slice p n c]] w fun e w' => e = .returned (.bool true) ∧ Below w.heap.size w w' := by
  have hb0 : Below w.heap.size w (w.alloc (.cells #[.bool neg, .slice p n c] 29)) := (Below.refl _ w).alloc (Nat.le_refl _) _
  have b0 := Boxed2.new w (.bool neg) (.slice p n c) 29
  have k0 := b0.cell0
  have k1 := b0.cell1
  have hx1 := hx.below hb0
  have HLG := Lib.hid (rlong_any neg p n c xs z _ hn hx1 hz)
  cases hl : longB z
  · have h1 : outS z = Lib.itoa z := by unfold outS; rw [hl]; rfl
    have h2 : outE z = 0 := by unfold outE; rw [hl]; rfl
    rw [h1, h2]
    have HL := Lib.hid hl
    clear h1 h2 hl
    go_enter Tryd.func27, Tryd.ntmps27
    go_wp2_with fail
    refine HLG.out.mono ?_
    rintro e w2 ⟨rfl, hb2⟩
    rw [HL.out]
    have b2 := b0.below hb2 b0.lt
    have k20 := b2.cell0
    have k21 := b2.cell1
    have hx2 := hx1.below hb2
    have hbx := hb0.trans (hb2.mono hb0.size)
    go_wp2_with fail
    refine (text_any _ _ _ _ xs _ _ (by omega) hx2).mono ?_
    rintro e w3 ⟨rfl, hb3⟩
    go_wp2_with fail
    go_ret
    exact ⟨rfl, hbx.trans (hb3.mono hbx.size)⟩
  · have h1 : outS z = [] := by unfold outS; rw [hl]; rfl
    have h2 : outE z = 2 := by unfold outE; rw [hl]; rfl
    rw [h1, h2]
    have HL := Lib.hid hl
    clear h1 h2 hl
    go_enter Tryd.func27, Tryd.ntmps27
    go_wp2_with fail
    refine HLG.out.mono ?_
    rintro e w2 ⟨rfl, hb2⟩
    rw [HL.out]
    have hbx := hb0.trans (hb2.mono hb0.size)
    go_wp2_with fail
    go_ret
    exact ⟨rfl, hbx⟩

theorem calls_flip' {f : FuncId} {a : Array Value} {w : World} {Q : Ending → Prop} (h : Calls Tryd.prog f a w fun e w' => Q e ∧ w' = w) : Calls Tryd.prog f a w fun e w' => Q e ∧ w = w' := h.mono fun _ _ ⟨x, y⟩ => ⟨x, y.symm⟩

/-- Lists of bytes. -/
def RdL (w : World) (a : Option Addr) (l : List (List UInt8)) : Prop := ∀ i s, l[i]? = some s → ∃ b off, a = some ⟨b, off, none⟩ ∧ b < w.heap.size ∧ w.cell? ⟨b, off + i, none⟩ = some (.string ⟨s.toArray⟩)
def allN (l : List (List UInt8)) : Bool := l.all numB

theorem RdL.below {w w' : World} {a : Option Addr} {l : List (List UInt8)} (h : RdL w a l) (hb : Below w.heap.size w w') : RdL w' a l := by
  intro i s hi
  obtain ⟨b, off, ha, hlt, hc⟩ := h i s hi
  exact ⟨b, off, ha, Nat.lt_of_lt_of_le hlt hb.size, (hb.cell (p := ⟨b, _, none⟩) hlt).trans hc⟩

def formE (b : Bool) : Int := if b then 0 else 6

set_option maxHeartbeats 1000000 in
theorem form_any (a : Option Addr) (n c : Nat) (l : List (List UInt8)) (w : World) (hl : l.length = n) (hn : n ≤ 1000000000) (hr : RdL w a l) (hs : ∀ s ∈ l, s.length ≤ 1000000000) :
    Calls Tryd.prog 26 #[.slice a n c] w fun e w' => e = .returned (.int .i64 (formE (allN l))) ∧ w = w' := by
  have HL := Lib.hid hl
  have HR := Lib.hid hr
  have HS := Lib.hid hs
  clear hl hr hs
  go_enter Tryd.func26, Tryd.ntmps26
  go_wp2_with fail
  go_loop [3] (fun v3 => ∃ i : Nat, i ≤ n ∧ v3 = .int .i64 (i : Int) ∧ Hid (allN (l.take i) = true)) (fun v3 => n - (Go.RowKit.intOf v3).toNat)
  case atStart => exact ⟨0, Nat.zero_le _, rfl, rfl⟩
  case round =>
    obtain ⟨i, hi, rfl, HA⟩ := hrel
    by_cases hlt : i < n
    · have hil : i < l.length := by rw [HL.out]; exact hlt
      obtain ⟨b, off, rfl, hb, hcell⟩ := HR.out i _ (List.getElem?_eq_getElem hil)
      have hsl := HS.out _ (List.getElem_mem hil)
      have htk : allN (l.take (i + 1)) = (allN (l.take i) && numB l[i]) := by unfold allN; rw [List.take_succ_eq_append_getElem hil, List.all_append]; simp
      have hno : numB l[i] = false → allN l = false := fun h => by unfold allN; rw [List.all_eq_false]; exact ⟨l[i], List.getElem_mem _, by simp [h]⟩
      generalize l[i] = s at *
      have HTK := Lib.hid htk
      have HNO := Lib.hid hno
      have HI := Lib.hid (calls_flip' (ris_any s w hsl))
      clear htk hno
      cases hnb : numB s
      · have HNB := Lib.hid hnb
        clear hnb
        go_wp2_with fail
        refine HI.out.mono ?_
        rintro e w' ⟨rfl, rfl⟩
        rw [HNB.out]
        go_wp2_with fail
        go_ret
        exact ⟨ret_int (by rw [HNO.out HNB.out]; rfl), rfl⟩
      · have HNB := Lib.hid hnb
        clear hnb
        go_wp2_with fail
        refine HI.out.mono ?_
        rintro e w' ⟨rfl, rfl⟩
        rw [HNB.out]
        go_wp2_with fail
        go_round
        case rel => exact ⟨i + 1, by omega, by go_num, by show _ = _; rw [HTK.out, HA.out, HNB.out]; rfl⟩
        case measure => simp [Go.RowKit.intOf]; omega
    · obtain rfl : i = n := by omega
      have ha := HA.out
      rw [List.take_of_length_le (by rw [HL.out]; exact Nat.le_refl _)] at ha
      have HA2 := Lib.hid ha
      clear ha
      go_wp2_with fail
      go_ret
      exact ⟨ret_int (by rw [HA2.out]; rfl), rfl⟩

end Go.Proofs.YtapfkinpdinbgaaDoor
