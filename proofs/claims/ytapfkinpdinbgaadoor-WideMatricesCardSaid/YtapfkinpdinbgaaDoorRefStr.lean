/-
  The reference: signs, forms of strings.
-/
import Derived.Test.YtapfkinpdinbgaaDoorIs
namespace Go.Proofs.YtapfkinpdinbgaaDoor
open Go.RowKit

theorem bytes_list (s : ByteArray) : s = ⟨s.data.toList.toArray⟩ := by cases s; simp

set_option maxHeartbeats 400000 in
theorem minus_any (l : List UInt8) (w : World) :
    Calls Tryd.prog 45 #[.string ⟨l.toArray⟩] w fun e w' => e = .returned (.int .i64 (if isNeg l then 1 else 0)) ∧ w' = w := by
  cases l with
  | nil =>
    go_enter Tryd.func45, Tryd.ntmps45
    go_wp2
    go_ret
    exact ⟨rfl, rfl⟩
  | cons c t =>
    have hpos : 0 < (⟨(c :: t).toArray⟩ : ByteArray).size := by show 0 < (c :: t).toArray.size; simp
    have hc : (((⟨(c :: t).toArray⟩ : ByteArray)[0]'hpos).toNat : Int) = (c.toNat : Int) := rfl
    by_cases h : c = 45
    · subst h
      have hz : ((((⟨((45 : UInt8) :: t).toArray⟩ : ByteArray)[0]'hpos).toNat : Int) == 45) = true := by rw [hc]; rfl
      clear hc
      go_enter Tryd.func45, Tryd.ntmps45
      go_wp2
      go_ret
      exact ⟨rfl, rfl⟩
    · have hz : ((((⟨(c :: t).toArray⟩ : ByteArray)[0]'hpos).toNat : Int) == 45) = false := by
        rw [hc]; simp; intro e; exact h (UInt8.toNat_inj.1 (show c.toNat = 45 by omega))
      have hn : isNeg (c :: t) = false := by simp [isNeg, h]
      rw [hn]
      clear hc hn
      go_enter Tryd.func45, Tryd.ntmps45
      go_wp2
      go_ret
      exact ⟨rfl, rfl⟩


/-- What Plain says of what stands behind the sign. -/
def restB (ds : List UInt8) : Bool := ds.all isDg && (!ds.isEmpty) && (ds.head? != some 48 || decide (ds.length = 1))

set_option maxHeartbeats 1000000 in
/-- No sign. -/
theorem plain_no (l : List UInt8) (w : World) (hl : l.length ≤ maxLen) (h45 : l.head? ≠ some 45) :
    Calls Tryd.prog 44 #[.string ⟨l.toArray⟩] w fun e w' => e = .returned (.bool (restB l)) ∧ w' = w := by
  unfold maxLen at hl
  obtain ⟨ds, rfl⟩ : ∃ ds, l = ds := ⟨_, rfl⟩
  have hsz : (⟨l.toArray⟩ : ByteArray).size = l.length := by show l.toArray.size = _; simp
  have h0 : ∀ h : 0 < (⟨l.toArray⟩ : ByteArray).size, ((((⟨l.toArray⟩ : ByteArray)[0]'h).toNat : Int) == 45) = false := by
    intro h
    cases l with
    | nil => exact absurd h (by show ¬ 0 < #[].size; simp)
    | cons c t =>
      show ((c.toNat : Int) == 45) = false
      simp at h45 ⊢
      intro e; exact h45 (UInt8.toNat_inj.1 (show c.toNat = 45 by omega))
  by_cases hn : 0 < l.length
  · have hp0 : 0 < (⟨l.toArray⟩ : ByteArray).size := by rw [hsz]; exact hn
    have hz := h0 hp0
    obtain ⟨x0, hx0⟩ : ∃ x0 : Nat, ((⟨l.toArray⟩ : ByteArray)[0]'hp0).toNat = x0 := ⟨_, rfl⟩
    rw [hx0] at hz
    have h48 : (l.head? = some 48 ↔ x0 = 48) := by
      cases l with
      | nil => simp at hn
      | cons c t =>
        have : c.toNat = x0 := hx0
        rw [← this]
        simp
        constructor
        · intro h; subst h; rfl
        · intro h; exact UInt8.toNat_inj.1 h
    have hi : (0 : Int) < (l.length : Int) := by omega
    go_enter Tryd.func44, Tryd.ntmps44
    go_wp2
    go_loop [3] (fun i => ∃ k : Nat, k ≤ l.length ∧ i = .int .i64 k ∧ Hid ((l.take k).all isDg = true)) (fun i => l.length - (intOf i).toNat)
    case atStart => exact ⟨0, Nat.zero_le _, rfl, rfl⟩
    case round =>
      obtain ⟨k, hk, rfl, hp⟩ := hrel
      by_cases hlt : k < l.length
      · have hks : k < (⟨l.toArray⟩ : ByteArray).size := by rw [hsz]; exact hlt
        have hb : (⟨l.toArray⟩ : ByteArray)[k]'hks = l[k] := rfl
        have hki : (k : Int) < (l.length : Int) := by omega
        obtain ⟨x, hx⟩ : ∃ x : Nat, l[k].toNat = x := ⟨_, rfl⟩
        have hb' : ((⟨l.toArray⟩ : ByteArray)[k]'hks).toNat = x := by rw [hb, hx]
        have htk : l.take (k + 1) = l.take k ++ [l[k]] := List.take_succ_eq_append_getElem hlt
        by_cases hd : isDg l[k] = true
        · obtain ⟨d1, d2⟩ := isDg_of hd
          rw [hx] at d1 d2
          have HP : Hid ((l.take (k + 1)).all isDg = true) := by
            show (l.take (k + 1)).all isDg = true
            rw [htk, List.all_append, hp.out]; simp [hd]
          clear hx htk hd hb
          go_wp2
          go_round
          case rel => exact ⟨k + 1, by omega, by go_num, HP⟩
          case measure => simp [intOf]; omega
        · have hlo : x < 48 ∨ 57 < x := by
            have : ¬ (48 ≤ l[k].toNat ∧ l[k].toNat ≤ 57) := by simpa [isDg] using hd
            omega
          have hfalse : restB l = false := by
            have : l.all isDg = false := by
              rw [← Bool.not_eq_true]; intro h
              exact hd (List.all_eq_true.1 h _ (List.getElem_mem hlt))
            unfold restB; rw [this]; rfl
          have HF := Lib.hid hfalse
          clear hx htk hd hb hfalse
          rcases hlo with hlo | hlo
          all_goals
            go_wp2
            go_ret
            exact ⟨ret_val (congrArg Value.bool HF.out.symm), rfl⟩
      · obtain rfl : k = l.length := by omega
        have hp' := hp.out
        rw [List.take_of_length_le (Nat.le_refl _)] at hp'
        have hne : l.isEmpty = false := by cases l; simp at hn; rfl
        have hr : restB l = (decide (x0 ≠ 48) || decide (l.length = 1)) := by
          unfold restB; rw [hp', hne]
          by_cases h : x0 = 48
          · have := h48.2 h; simp [this, h]
          · have : l.head? ≠ some 48 := fun e => h (h48.1 e)
            simp [this, h]
        have HR := Lib.hid hr
        clear hp hp' hr h48
        have hi2 : ¬ (l.length : Int) < (l.length : Int) := by omega
        by_cases h : x0 = 48
        · have hz2 : ((x0 : Int) != 48) = false := by simp; omega
          by_cases h1 : l.length = 1
          · have h1' : ((l.length : Int) == 1) = true := by simp; omega
            go_wp2
            go_ret
            refine ⟨ret_val ?_, rfl⟩
            rw [HR.out]; simp [h, h1]
          · have h1' : ((l.length : Int) == 1) = false := by simp; omega
            go_wp2
            go_ret
            refine ⟨ret_val ?_, rfl⟩
            rw [HR.out]; simp [h, h1]
        · have hz2 : ((x0 : Int) != 48) = true := by simp; omega
          go_wp2
          go_ret
          refine ⟨ret_val ?_, rfl⟩
          rw [HR.out]; simp [h]
  · have hl0 : l = [] := List.length_eq_zero_iff.1 (by omega)
    subst hl0
    go_enter Tryd.func44, Tryd.ntmps44
    go_wp2
    go_loop [3] (fun i => i = .int .i64 0) (fun _ => 0)
    case atStart => rfl
    case round =>
      subst hrel
      go_wp2
      go_ret
      exact ⟨rfl, rfl⟩

theorem tail_bytes (c : UInt8) (l : List UInt8) : (⟨(c :: l).toArray⟩ : ByteArray).extract 1 (⟨(c :: l).toArray⟩ : ByteArray).size = ⟨l.toArray⟩ := by
  apply ByteArray.ext
  rw [ByteArray.data_extract]
  show ((c :: l).toArray).extract 1 ((c :: l).toArray).size = l.toArray
  simp

set_option maxRecDepth 10000 in
set_option maxHeartbeats 1000000 in
/-- Behind a sign. -/
theorem plain_neg (l : List UInt8) (w : World) (hl : l.length + 1 ≤ maxLen) :
    Calls Tryd.prog 44 #[.string ⟨((45 : UInt8) :: l).toArray⟩] w fun e w' => e = .returned (.bool (restB l && !(l == [48]))) ∧ w' = w := by
  unfold maxLen at hl
  have hsz : (⟨l.toArray⟩ : ByteArray).size = l.length := by show l.toArray.size = _; simp
  have hsz1 : (⟨((45 : UInt8) :: l).toArray⟩ : ByteArray).size = l.length + 1 := by show ((45 : UInt8) :: l).toArray.size = _; simp
  have hp1 : 0 < (⟨((45 : UInt8) :: l).toArray⟩ : ByteArray).size := by rw [hsz1]; omega
  have hz : ((((⟨((45 : UInt8) :: l).toArray⟩ : ByteArray)[0]'hp1).toNat : Int) == 45) = true := rfl
  have hsl : (Instr.sliceAt 9 (.string ⟨((45 : UInt8) :: l).toArray⟩) (some (.int .i64 1)) none none).run Tryd.prog w = .ok (.string ⟨l.toArray⟩) w := by
    rw [run_sliceAt_string w 9 _ _ _ _ Tryd.underlying9, run_slice_string_l w 9 _ Tryd.underlying9 .i64 (1 : Int) (by omega) (by rw [hsz1]; omega)]
    exact congrArg (fun b => Result.ok (Value.string b) w) (tail_bytes 45 l)
  generalize (⟨((45 : UInt8) :: l).toArray⟩ : ByteArray) = s1 at *
  obtain ⟨n, hn⟩ : ∃ n, l.length + 1 = n := ⟨_, rfl⟩
  rw [hn] at hsz1 hl
  have hi : (0 : Int) < (n : Int) := by omega
  have hll : l.length ≤ 9223372036854775806 := by omega
  clear hn
  cases h48' : (l == [48])
  · simp only [Bool.not_false, Bool.and_true]
    by_cases hn : 0 < l.length
    · have hp0 : 0 < (⟨l.toArray⟩ : ByteArray).size := by rw [hsz]; exact hn
      obtain ⟨x0, hx0⟩ : ∃ x0 : Nat, ((⟨l.toArray⟩ : ByteArray)[0]'hp0).toNat = x0 := ⟨_, rfl⟩
      have h48 : (l.head? = some 48 ↔ x0 = 48) := by
        cases l with
        | nil => simp at hn
        | cons c t =>
          have : c.toNat = x0 := hx0
          rw [← this]
          simp
          constructor
          · intro h; subst h; rfl
          · intro h; exact UInt8.toNat_inj.1 h
      have hi0 : (0 : Int) < (l.length : Int) := by omega
      go_enter Tryd.func44, Tryd.ntmps44
      go_wp2
      go_loop [3] (fun i => ∃ k : Nat, k ≤ l.length ∧ i = .int .i64 k ∧ Hid ((l.take k).all isDg = true)) (fun i => l.length - (intOf i).toNat)
      case atStart => exact ⟨0, Nat.zero_le _, rfl, rfl⟩
      case round =>
        obtain ⟨k, hk, rfl, hp⟩ := hrel
        by_cases hlt : k < l.length
        · have hks : k < (⟨l.toArray⟩ : ByteArray).size := by rw [hsz]; exact hlt
          have hb : (⟨l.toArray⟩ : ByteArray)[k]'hks = l[k] := rfl
          have hki : (k : Int) < (l.length : Int) := by omega
          obtain ⟨x, hx⟩ : ∃ x : Nat, l[k].toNat = x := ⟨_, rfl⟩
          have hb' : ((⟨l.toArray⟩ : ByteArray)[k]'hks).toNat = x := by rw [hb, hx]
          have htk : l.take (k + 1) = l.take k ++ [l[k]] := List.take_succ_eq_append_getElem hlt
          by_cases hd : isDg l[k] = true
          · obtain ⟨d1, d2⟩ := isDg_of hd
            rw [hx] at d1 d2
            have HP : Hid ((l.take (k + 1)).all isDg = true) := by
              show (l.take (k + 1)).all isDg = true
              rw [htk, List.all_append, hp.out]; simp [hd]
            clear hx htk hd hb
            go_wp2
            go_round
            case rel => exact ⟨k + 1, by omega, by go_num, HP⟩
            case measure => simp [intOf]; omega
          · have hlo : x < 48 ∨ 57 < x := by
              have : ¬ (48 ≤ l[k].toNat ∧ l[k].toNat ≤ 57) := by simpa [isDg] using hd
              omega
            have hfalse : restB l = false := by
              have : l.all isDg = false := by
                rw [← Bool.not_eq_true]; intro h
                exact hd (List.all_eq_true.1 h _ (List.getElem_mem hlt))
              unfold restB; rw [this]; rfl
            have HF := Lib.hid hfalse
            clear hx htk hd hb hfalse
            rcases hlo with hlo | hlo
            all_goals
              go_wp2
              go_ret
              exact ⟨ret_val (congrArg Value.bool HF.out.symm), rfl⟩
        · obtain rfl : k = l.length := by omega
          have hp' := hp.out
          rw [List.take_of_length_le (Nat.le_refl _)] at hp'
          have hne : l.isEmpty = false := by cases l; simp at hn; rfl
          have hr : restB l = (decide (x0 ≠ 48) || decide (l.length = 1)) := by
            unfold restB; rw [hp', hne]
            by_cases h : x0 = 48
            · have := h48.2 h; simp [this, h]
            · have : l.head? ≠ some 48 := fun e => h (h48.1 e)
              simp [this, h]
          have HR := Lib.hid hr
          clear hp hp' hr h48
          have hi2 : ¬ (l.length : Int) < (l.length : Int) := by omega
          by_cases h : x0 = 48
          · have hz2 : ((x0 : Int) != 48) = false := by simp; omega
            by_cases h1 : l.length = 1
            · have h1' : ((l.length : Int) == 1) = true := by simp; omega
              go_wp2
              go_ret
              refine ⟨ret_val ?_, rfl⟩
              rw [HR.out]; simp [h, h1]
            · have h1' : ((l.length : Int) == 1) = false := by simp; omega
              go_wp2
              go_ret
              refine ⟨ret_val ?_, rfl⟩
              rw [HR.out]; simp [h, h1]
          · have hz2 : ((x0 : Int) != 48) = true := by simp; omega
            go_wp2
            go_ret
            refine ⟨ret_val ?_, rfl⟩
            rw [HR.out]; simp [h]
    · have hl0 : l = [] := List.length_eq_zero_iff.1 (by omega)
      subst hl0
      go_enter Tryd.func44, Tryd.ntmps44
      go_wp2
      go_loop [3] (fun i => i = .int .i64 0) (fun _ => 0)
      case atStart => rfl
      case round =>
        subst hrel
        go_wp2
        go_ret
        exact ⟨rfl, rfl⟩

  · go_enter Tryd.func44, Tryd.ntmps44
    go_wp2
    go_ret
    exact ⟨ret_val (by simp), rfl⟩


theorem plain_any (l : List UInt8) (w : World) (hl : l.length ≤ maxLen) :
    Calls Tryd.prog 44 #[.string ⟨l.toArray⟩] w fun e w' => e = .returned (.bool (plainB l)) ∧ w' = w := by
  cases l with
  | nil => exact plain_no [] w hl (by simp)
  | cons c t =>
    by_cases h : c = 45
    · subst h
      refine (plain_neg t w hl).mono ?_
      rintro e w' ⟨rfl, rfl⟩
      refine ⟨ret_val (congrArg Value.bool ?_), rfl⟩
      have hd : digitsOf (45 :: t) = t := by simp [digitsOf]
      unfold restB plainB
      rw [hd]
      match t with
      | [] => simp
      | [x] =>
        by_cases h : x = 48
        · subst h; decide
        · have e1 : (x == 48) = false := by simpa using h
          have e2 : (some x != some 48) = true := by simp [h]
          simp [e1, e2]
      | x :: y :: u => simp [Bool.and_comm]
    · refine (plain_no (c :: t) w hl (by simp [h])).mono ?_
      rintro e w' ⟨rfl, rfl⟩
      refine ⟨ret_val (congrArg Value.bool ?_), rfl⟩
      have hd : digitsOf (c :: t) = c :: t := by simp [digitsOf, h]
      unfold restB plainB
      rw [hd]
      match t with
      | [] => by_cases h : c = 48 <;> simp [h]
      | y :: u => simp [Bool.and_comm]

end Go.Proofs.YtapfkinpdinbgaaDoor
