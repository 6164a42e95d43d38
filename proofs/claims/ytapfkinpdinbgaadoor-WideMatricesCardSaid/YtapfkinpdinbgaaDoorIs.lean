/-
  Whether a string is a number.
-/
import Derived.Test.YtapfkinpdinbgaaDoorBase
import Derived.Test.YtapfkinpdinbgaaDoorStr
import Derived.Test.YtapfkinpdinbgaaDoorShelf
import Derived.Lib.OthersKept
namespace Go.Proofs.YtapfkinpdinbgaaDoor
open Go.RowKit

theorem trim_digits (l : List UInt8) : Lib.trimPrefix l [45] = digitsOf l := by
  cases l with
  | nil => rfl
  | cons c t =>
    unfold Lib.trimPrefix Lib.hasPrefix digitsOf
    by_cases h : c = 45
    · subst h; simp
    · simp [h, Ne.symm h]

/-- strings.TrimPrefix(s, "-") -/
theorem trimMinus (s : ByteArray) (w : World) :
    Calls Tryd.prog 43 #[.string s, .string ⟨#[45]⟩] w fun e w' => e = .returned (.string ⟨(digitsOf s.data.toList).toArray⟩) ∧ w = w' := by
  refine (Tryd.strings_TrimPrefix s ⟨#[45]⟩ w).mono ?_
  rintro e w' ⟨rfl, rfl⟩
  exact ⟨by rw [← trim_digits], rfl⟩

theorem digitsOf_le (l : List UInt8) : (digitsOf l).length ≤ l.length := by
  cases l with
  | nil => exact Nat.le_refl _
  | cons c t => rw [digitsOf.eq_2]; split <;> simp

theorem isDg_of {c : UInt8} (h : isDg c = true) : 48 ≤ c.toNat ∧ c.toNat ≤ 57 := by simpa [isDg] using h

set_option maxHeartbeats 1000000 in
theorem is_any (s : ByteArray) (w : World) (hs : s.size ≤ maxLen) :
    Calls Tryd.prog 13 #[.string s] w fun e w' => e = .returned (.bool (numB s.data.toList)) ∧ Below w.heap.size w w' := by
  unfold maxLen at hs
  have hl : (digitsOf s.data.toList).length ≤ s.size := digitsOf_le _
  obtain ⟨ds, hds⟩ : ∃ ds, digitsOf s.data.toList = ds := ⟨_, rfl⟩
  have hfin : numB s.data.toList = ((!ds.isEmpty) && ds.all isDg && (ds.head? != some 48 || s.data.toList == [48]) && decide (ds.length ≤ 2000)) := by unfold numB plainB; rw [hds]
  rw [hds] at hl
  have HD := Lib.hid hds
  have HF := Lib.hid hfin
  clear hds hfin
  by_cases hn : ds = []
  · subst hn
    go_enter Tryd.func13, Tryd.ntmps13
    go_wp2_with (go_at_call 43; refine (trimMinus _ _).mono ?_; rintro e w' ⟨rfl, rfl⟩; rw [HD.out])
    go_ret
    refine ⟨?_, Below.refl _ _⟩
    rw [HF.out]; rfl
  · have h0 : 0 < ds.length := List.length_pos_iff.2 hn
    have he : ds.isEmpty = false := by simpa using hn
    have HN := Lib.hid hn
    clear hn
    by_cases h1 : (2000 : Int) < (ds.length : Int)
    · go_enter Tryd.func13, Tryd.ntmps13
      go_wp2_with (go_at_call 43; refine (trimMinus _ _).mono ?_; rintro e w' ⟨rfl, rfl⟩; rw [HD.out])
      go_ret
      refine ⟨?_, Below.refl _ _⟩
      rw [HF.out]
      simp; omega
    · have h2 : (ds.length : Int) ≤ 2000 := by omega
      clear h1
      have hpos : 0 < (⟨ds.toArray⟩ : ByteArray).size := by show 0 < ds.toArray.size; simpa using h0
      have hcz : ∀ b, ((((⟨ds.toArray⟩ : ByteArray)[0]'hpos).toNat : Int) == 48) = b → (ds.head? == some 48) = b := by
        intro b hb
        obtain ⟨c, t, rfl⟩ : ∃ c t, ds = c :: t := ⟨_, _, (List.cons_head_tail HN.out).symm⟩
        have hb' : ((c.toNat : Int) == 48) = b := hb
        rw [← hb', Bool.eq_iff_iff]
        simp only [List.head?_cons, beq_iff_eq, Option.some.injEq]
        constructor
        · intro h; subst h; rfl
        · intro h; exact UInt8.toNat_inj.1 (show c.toNat = 48 by omega)
      by_cases hz : ((((⟨ds.toArray⟩ : ByteArray)[0]'hpos).toNat : Int) == 48) = true ∧ (!s.toList == [48]) = true
      · obtain ⟨hz, ha⟩ := hz
        have hhd : (ds.head? != some 48 || s.data.toList == [48]) = false := by
          rw [Lib.toList_data] at ha
          have := hcz true hz
          simp at ha this
          simp [this, ha]
        have HH := Lib.hid hhd
        clear hhd hcz
        go_enter Tryd.func13, Tryd.ntmps13
        go_wp2_with (go_at_call 43; refine (trimMinus _ _).mono ?_; rintro e w' ⟨rfl, rfl⟩; rw [HD.out])
        go_ret
        refine ⟨?_, Below.refl _ _⟩
        rw [HF.out, HH.out]; simp
      · have hhd : (ds.head? != some 48 || s.data.toList == [48]) = true := by
          rw [Lib.toList_data] at hz
          cases hq : ((((⟨ds.toArray⟩ : ByteArray)[0]'hpos).toNat : Int) == 48) with
          | false => have := hcz false hq; simp at this; simp [this]
          | true => rw [hq] at hz; simp at hz; simp [hz]
        have hab : ((((⟨ds.toArray⟩ : ByteArray)[0]'hpos).toNat : Int) == 48) = false ∨ ((((⟨ds.toArray⟩ : ByteArray)[0]'hpos).toNat : Int) == 48) = true ∧ (!s.toList == [48]) = false := by
          cases hq : ((((⟨ds.toArray⟩ : ByteArray)[0]'hpos).toNat : Int) == 48) with
          | false => exact Or.inl rfl
          | true => rw [hq] at hz; simp at hz; exact Or.inr ⟨rfl, by simp [hz]⟩
        have HH := Lib.hid hhd
        clear hhd hcz hz
        rcases hab with hz | ⟨hz, ha⟩
        all_goals
          go_enter Tryd.func13, Tryd.ntmps13
          go_wp2_with (go_at_call 43; refine (trimMinus _ _).mono ?_; rintro e w' ⟨rfl, rfl⟩; rw [HD.out])
          go_loopw [5] (fun _ wr => ∃ k : Nat, k ≤ ds.length ∧ wr = w.iter ⟨ds.toArray⟩ k ∧ Hid ((ds.take k).all isDg = true)) (fun _ wr => ds.length - wr.iterPos w.heap.size)
          case atStart => exact ⟨0, Nat.zero_le _, rfl, rfl⟩
          case round =>
            obtain ⟨k, hk, rfl, hp⟩ := hrel
            by_cases hlt : k < ds.length
            · have hsz : k < (⟨ds.toArray⟩ : ByteArray).size := by show k < ds.toArray.size; simpa using hlt
              have hb : (⟨ds.toArray⟩ : ByteArray)[k]'hsz = ds[k] := rfl
              have htk : ds.take (k + 1) = ds.take k ++ [ds[k]] := List.take_succ_eq_append_getElem hlt
              by_cases hd : isDg ds[k] = true
              · obtain ⟨d1, d2⟩ := isDg_of hd
                have hnext := fun ty => run_next_ascii (P := Tryd.prog) w ⟨ds.toArray⟩ k ty hsz (by rw [hb]; omega)
                rw [hb] at hnext
                obtain ⟨c, hc⟩ : ∃ c : Nat, ds[k].toNat = c := ⟨_, rfl⟩
                have HP : Hid ((ds.take (k + 1)).all isDg = true) := by
                  show (ds.take (k + 1)).all isDg = true
                  rw [htk, List.all_append, hp.out]; simp [hd]
                rw [hc] at d1 d2 hnext
                clear hc htk hd hb
                go_wp2
                go_roundw
                case rel =>
                  exact ⟨k + 1, by omega, rfl, HP⟩
                case measure => simp; omega
              · have hfalse : numB s.data.toList = false := by
                  rw [HF.out]
                  have : ds.all isDg = false := by
                    rw [← Bool.not_eq_true]; intro h
                    exact hd (List.all_eq_true.1 h _ (List.getElem_mem hlt))
                  rw [this]; simp
                have HFF := Lib.hid hfalse
                have hlo : ds[k].toNat < 48 ∨ 57 < ds[k].toNat := by
                  have : ¬ (48 ≤ ds[k].toNat ∧ ds[k].toNat ≤ 57) := by simpa [isDg] using hd
                  omega
                by_cases ha : ds[k].toNat < 128
                · have hnext := fun ty => run_next_ascii (P := Tryd.prog) w ⟨ds.toArray⟩ k ty hsz (by rw [hb]; exact ha)
                  rw [hb] at hnext
                  obtain ⟨c, hc⟩ : ∃ c : Nat, ds[k].toNat = c := ⟨_, rfl⟩
                  rw [hc] at hlo hnext
                  clear hc htk hd hb ha hfalse
                  rcases hlo with hlo | hlo
                  all_goals
                    go_wp2
                    go_ret
                    exact ⟨ret_val (congrArg Value.bool HFF.out.symm), (Below.refl w.heap.size w).alloc (Nat.le_refl _) _⟩
                · obtain ⟨e1, e2⟩ := decode_high ⟨ds.toArray⟩ k hsz (by rw [hb]; omega)
                  have e3 := decode_le ⟨ds.toArray⟩ k
                  have hnext := fun ty => run_next_any (P := Tryd.prog) w ⟨ds.toArray⟩ k ty hsz
                  obtain ⟨r, hr⟩ : ∃ r, Utf8.decode ⟨ds.toArray⟩ k = r := ⟨_, rfl⟩
                  rw [hr] at e1 e2 e3 hnext
                  obtain ⟨r1, r2⟩ := r
                  dsimp only at e1 e2 e3 hnext
                  clear hr htk hd hb ha hfalse hlo
                  go_wp2
                  go_ret
                  exact ⟨ret_val (congrArg Value.bool HFF.out.symm), (Below.refl w.heap.size w).alloc (Nat.le_refl _) _⟩
            · obtain rfl : k = ds.length := by omega
              have hsz : ¬ ds.length < (⟨ds.toArray⟩ : ByteArray).size := by show ¬ ds.length < ds.toArray.size; simp
              have hnext := fun ty => run_next_end (P := Tryd.prog) w ⟨ds.toArray⟩ ds.length ty hsz
              go_wp2
              go_ret
              refine ⟨?_, (Below.refl w.heap.size w).alloc (Nat.le_refl _) _⟩
              have hp' := hp.out
              rw [List.take_of_length_le (Nat.le_refl _)] at hp'
              rw [HF.out, HH.out, hp', he]
              simp; omega
end Go.Proofs.YtapfkinpdinbgaaDoor
