/-
  The reference: signs, forms of strings; Rows of the call's own that grow by one: digits, bytes; int64 to string and back.
-/
import Derived.Lib.AtoiErrMem
import Derived.Test.YtimcbmgmngkagaaGreatDoorK1
import Derived.Test.YtimcbmgmngkagaaGreatDoorK2
import Derived.Test.YtimcbmgmngkagaaGreatDoorK3
import Derived.Test.YtimcbmgmngkagaaGreatDoorK4
namespace Go.Proofs.YtimcbmgmngkagaaGreatDoor
open Go.RowKit

theorem bytes_list (s : ByteArray) : s = ⟨s.data.toList.toArray⟩ := by cases s; simp

set_option maxHeartbeats 400000 in
theorem minus_any (l : List UInt8) (w : World) :
    Calls Tryz.prog 71 #[.string ⟨l.toArray⟩] w fun e w' => e = .returned (.int .i64 (if isNeg l then 1 else 0)) ∧ w' = w := by
  cases l with
  | nil =>
    go_enter Tryz.func71, Tryz.ntmps71
    go_wp2
    go_ret
    exact ⟨rfl, rfl⟩
  | cons c t =>
    have hpos : 0 < (⟨(c :: t).toArray⟩ : ByteArray).size := by show 0 < (c :: t).toArray.size; simp
    have hc : (((⟨(c :: t).toArray⟩ : ByteArray)[0]'hpos).toNat : Int) = (c.toNat : Int) := rfl
    by_cases h : c = 45
    · subst h
      have hz : ((((⟨((45 : UInt8) :: t).toArray⟩ : ByteArray)[0]'hpos).toNat : Int) == 45) = true := by rw [hc]; rfl
      clear hc
      go_enter Tryz.func71, Tryz.ntmps71
      go_wp2
      go_ret
      exact ⟨rfl, rfl⟩
    · have hz : ((((⟨(c :: t).toArray⟩ : ByteArray)[0]'hpos).toNat : Int) == 45) = false := by
        rw [hc]; simp; intro e; exact h (UInt8.toNat_inj.1 (show c.toNat = 45 by omega))
      have hn : isNeg (c :: t) = false := by simp [isNeg, h]
      rw [hn]
      clear hc hn
      go_enter Tryz.func71, Tryz.ntmps71
      go_wp2
      go_ret
      exact ⟨rfl, rfl⟩


/-- What Plain says of what stands behind the sign. -/
def restB (ds : List UInt8) : Bool := ds.all isDg && (!ds.isEmpty) && (ds.head? != some 48 || decide (ds.length = 1))

set_option maxHeartbeats 1000000 in
/-- No sign. -/
theorem plain_no (l : List UInt8) (w : World) (hl : l.length ≤ maxLen) (h45 : l.head? ≠ some 45) :
    Calls Tryz.prog 85 #[.string ⟨l.toArray⟩] w fun e w' => e = .returned (.bool (restB l)) ∧ w' = w := by
  unfold maxLen at hl
  obtain ⟨ds, rfl⟩ : ∃ ds, l = ds := ⟨_, rfl⟩
  have hsz : (⟨l.toArray⟩ : ByteArray).size = l.length := by show l.toArray.size = _; simp
  have h0 : ∀ h : 0 < (⟨l.toArray⟩ : ByteArray).size, ((((⟨l.toArray⟩ : ByteArray)[0]'h).toNat : Int) == 45) = false := by
    intro h
    cases l with
    | nil => exact absurd h (by show ¬ 0 < #[].size; simp)
    | cons c t =>
      show ((c.toNat : Int) == 45) = false
      simp at h45 ⊢
      intro e; exact h45 (UInt8.toNat_inj.1 (show c.toNat = 45 by omega))
  by_cases hn : 0 < l.length
  · have hp0 : 0 < (⟨l.toArray⟩ : ByteArray).size := by rw [hsz]; exact hn
    have hz := h0 hp0
    obtain ⟨x0, hx0⟩ : ∃ x0 : Nat, ((⟨l.toArray⟩ : ByteArray)[0]'hp0).toNat = x0 := ⟨_, rfl⟩
    rw [hx0] at hz
    have h48 : (l.head? = some 48 ↔ x0 = 48) := by
      cases l with
      | nil => simp at hn
      | cons c t =>
        have : c.toNat = x0 := hx0
        rw [← this]
        simp
        constructor
        · intro h; subst h; rfl
        · intro h; exact UInt8.toNat_inj.1 h
    have hi : (0 : Int) < (l.length : Int) := by omega
    go_enter Tryz.func85, Tryz.ntmps85
    go_wp2
    go_loop [3] (fun i => ∃ k : Nat, k ≤ l.length ∧ i = .int .i64 k ∧ Hid ((l.take k).all isDg = true)) (fun i => l.length - (intOf i).toNat)
    case atStart => exact ⟨0, Nat.zero_le _, rfl, rfl⟩
    case round =>
      obtain ⟨k, hk, rfl, hp⟩ := hrel
      by_cases hlt : k < l.length
      · have hks : k < (⟨l.toArray⟩ : ByteArray).size := by rw [hsz]; exact hlt
        have hb : (⟨l.toArray⟩ : ByteArray)[k]'hks = l[k] := rfl
        have hki : (k : Int) < (l.length : Int) := by omega
        obtain ⟨x, hx⟩ : ∃ x : Nat, l[k].toNat = x := ⟨_, rfl⟩
        have hb' : ((⟨l.toArray⟩ : ByteArray)[k]'hks).toNat = x := by rw [hb, hx]
        have htk : l.take (k + 1) = l.take k ++ [l[k]] := List.take_succ_eq_append_getElem hlt
        by_cases hd : isDg l[k] = true
        · obtain ⟨d1, d2⟩ := isDg_of hd
          rw [hx] at d1 d2
          have HP : Hid ((l.take (k + 1)).all isDg = true) := by
            show (l.take (k + 1)).all isDg = true
            rw [htk, List.all_append, hp.out]; simp [hd]
          clear hx htk hd hb
          go_wp2
          go_round
          case rel => exact ⟨k + 1, by omega, by go_num, HP⟩
          case measure => simp [intOf]; omega
        · have hlo : x < 48 ∨ 57 < x := by
            have : ¬ (48 ≤ l[k].toNat ∧ l[k].toNat ≤ 57) := by simpa [isDg] using hd
            omega
          have hfalse : restB l = false := by
            have : l.all isDg = false := by
              rw [← Bool.not_eq_true]; intro h
              exact hd (List.all_eq_true.1 h _ (List.getElem_mem hlt))
            unfold restB; rw [this]; rfl
          have HF := Lib.hid hfalse
          clear hx htk hd hb hfalse
          rcases hlo with hlo | hlo
          all_goals
            go_wp2
            go_ret
            exact ⟨ret_val (congrArg Value.bool HF.out.symm), rfl⟩
      · obtain rfl : k = l.length := by omega
        have hp' := hp.out
        rw [List.take_of_length_le (Nat.le_refl _)] at hp'
        have hne : l.isEmpty = false := by cases l; simp at hn; rfl
        have hr : restB l = (decide (x0 ≠ 48) || decide (l.length = 1)) := by
          unfold restB; rw [hp', hne]
          by_cases h : x0 = 48
          · have := h48.2 h; simp [this, h]
          · have : l.head? ≠ some 48 := fun e => h (h48.1 e)
            simp [this, h]
        have HR := Lib.hid hr
        clear hp hp' hr h48
        have hi2 : ¬ (l.length : Int) < (l.length : Int) := by omega
        by_cases h : x0 = 48
        · have hz2 : ((x0 : Int) != 48) = false := by simp; omega
          by_cases h1 : l.length = 1
          · have h1' : ((l.length : Int) == 1) = true := by simp; omega
            go_wp2
            go_ret
            refine ⟨ret_val ?_, rfl⟩
            rw [HR.out]; simp [h, h1]
          · have h1' : ((l.length : Int) == 1) = false := by simp; omega
            go_wp2
            go_ret
            refine ⟨ret_val ?_, rfl⟩
            rw [HR.out]; simp [h, h1]
        · have hz2 : ((x0 : Int) != 48) = true := by simp; omega
          go_wp2
          go_ret
          refine ⟨ret_val ?_, rfl⟩
          rw [HR.out]; simp [h]
  · have hl0 : l = [] := List.length_eq_zero_iff.1 (by omega)
    subst hl0
    go_enter Tryz.func85, Tryz.ntmps85
    go_wp2
    go_loop [3] (fun i => i = .int .i64 0) (fun _ => 0)
    case atStart => rfl
    case round =>
      subst hrel
      go_wp2
      go_ret
      exact ⟨rfl, rfl⟩

theorem tail_bytes (c : UInt8) (l : List UInt8) : (⟨(c :: l).toArray⟩ : ByteArray).extract 1 (⟨(c :: l).toArray⟩ : ByteArray).size = ⟨l.toArray⟩ := by
  apply ByteArray.ext
  rw [ByteArray.data_extract]
  show ((c :: l).toArray).extract 1 ((c :: l).toArray).size = l.toArray
  simp

set_option maxRecDepth 10000 in
set_option maxHeartbeats 1000000 in
/-- Behind a sign. -/
theorem plain_neg (l : List UInt8) (w : World) (hl : l.length + 1 ≤ maxLen) :
    Calls Tryz.prog 85 #[.string ⟨((45 : UInt8) :: l).toArray⟩] w fun e w' => e = .returned (.bool (restB l && !(l == [48]))) ∧ w' = w := by
  unfold maxLen at hl
  have hsz : (⟨l.toArray⟩ : ByteArray).size = l.length := by show l.toArray.size = _; simp
  have hsz1 : (⟨((45 : UInt8) :: l).toArray⟩ : ByteArray).size = l.length + 1 := by show ((45 : UInt8) :: l).toArray.size = _; simp
  have hp1 : 0 < (⟨((45 : UInt8) :: l).toArray⟩ : ByteArray).size := by rw [hsz1]; omega
  have hz : ((((⟨((45 : UInt8) :: l).toArray⟩ : ByteArray)[0]'hp1).toNat : Int) == 45) = true := rfl
  have hsl : (Instr.sliceAt 9 (.string ⟨((45 : UInt8) :: l).toArray⟩) (some (.int .i64 1)) none none).run Tryz.prog w = .ok (.string ⟨l.toArray⟩) w := by
    rw [run_sliceAt_string w 9 _ _ _ _ Tryz.underlying9, run_slice_string_l w 9 _ Tryz.underlying9 .i64 (1 : Int) (by omega) (by rw [hsz1]; omega)]
    exact congrArg (fun b => Result.ok (Value.string b) w) (tail_bytes 45 l)
  generalize (⟨((45 : UInt8) :: l).toArray⟩ : ByteArray) = s1 at *
  obtain ⟨n, hn⟩ : ∃ n, l.length + 1 = n := ⟨_, rfl⟩
  rw [hn] at hsz1 hl
  have hi : (0 : Int) < (n : Int) := by omega
  have hll : l.length ≤ 9223372036854775806 := by omega
  clear hn
  cases h48' : (l == [48])
  · simp only [Bool.not_false, Bool.and_true]
    by_cases hn : 0 < l.length
    · have hp0 : 0 < (⟨l.toArray⟩ : ByteArray).size := by rw [hsz]; exact hn
      obtain ⟨x0, hx0⟩ : ∃ x0 : Nat, ((⟨l.toArray⟩ : ByteArray)[0]'hp0).toNat = x0 := ⟨_, rfl⟩
      have h48 : (l.head? = some 48 ↔ x0 = 48) := by
        cases l with
        | nil => simp at hn
        | cons c t =>
          have : c.toNat = x0 := hx0
          rw [← this]
          simp
          constructor
          · intro h; subst h; rfl
          · intro h; exact UInt8.toNat_inj.1 h
      have hi0 : (0 : Int) < (l.length : Int) := by omega
      go_enter Tryz.func85, Tryz.ntmps85
      go_wp2
      go_loop [3] (fun i => ∃ k : Nat, k ≤ l.length ∧ i = .int .i64 k ∧ Hid ((l.take k).all isDg = true)) (fun i => l.length - (intOf i).toNat)
      case atStart => exact ⟨0, Nat.zero_le _, rfl, rfl⟩
      case round =>
        obtain ⟨k, hk, rfl, hp⟩ := hrel
        by_cases hlt : k < l.length
        · have hks : k < (⟨l.toArray⟩ : ByteArray).size := by rw [hsz]; exact hlt
          have hb : (⟨l.toArray⟩ : ByteArray)[k]'hks = l[k] := rfl
          have hki : (k : Int) < (l.length : Int) := by omega
          obtain ⟨x, hx⟩ : ∃ x : Nat, l[k].toNat = x := ⟨_, rfl⟩
          have hb' : ((⟨l.toArray⟩ : ByteArray)[k]'hks).toNat = x := by rw [hb, hx]
          have htk : l.take (k + 1) = l.take k ++ [l[k]] := List.take_succ_eq_append_getElem hlt
          by_cases hd : isDg l[k] = true
          · obtain ⟨d1, d2⟩ := isDg_of hd
            rw [hx] at d1 d2
            have HP : Hid ((l.take (k + 1)).all isDg = true) := by
              show (l.take (k + 1)).all isDg = true
              rw [htk, List.all_append, hp.out]; simp [hd]
            clear hx htk hd hb
            go_wp2
            go_round
            case rel => exact ⟨k + 1, by omega, by go_num, HP⟩
            case measure => simp [intOf]; omega
          · have hlo : x < 48 ∨ 57 < x := by
              have : ¬ (48 ≤ l[k].toNat ∧ l[k].toNat ≤ 57) := by simpa [isDg] using hd
              omega
            have hfalse : restB l = false := by
              have : l.all isDg = false := by
                rw [← Bool.not_eq_true]; intro h
                exact hd (List.all_eq_true.1 h _ (List.getElem_mem hlt))
              unfold restB; rw [this]; rfl
            have HF := Lib.hid hfalse
            clear hx htk hd hb hfalse
            rcases hlo with hlo | hlo
            all_goals
              go_wp2
              go_ret
              exact ⟨ret_val (congrArg Value.bool HF.out.symm), rfl⟩
        · obtain rfl : k = l.length := by omega
          have hp' := hp.out
          rw [List.take_of_length_le (Nat.le_refl _)] at hp'
          have hne : l.isEmpty = false := by cases l; simp at hn; rfl
          have hr : restB l = (decide (x0 ≠ 48) || decide (l.length = 1)) := by
            unfold restB; rw [hp', hne]
            by_cases h : x0 = 48
            · have := h48.2 h; simp [this, h]
            · have : l.head? ≠ some 48 := fun e => h (h48.1 e)
              simp [this, h]
          have HR := Lib.hid hr
          clear hp hp' hr h48
          have hi2 : ¬ (l.length : Int) < (l.length : Int) := by omega
          by_cases h : x0 = 48
          · have hz2 : ((x0 : Int) != 48) = false := by simp; omega
            by_cases h1 : l.length = 1
            · have h1' : ((l.length : Int) == 1) = true := by simp; omega
              go_wp2
              go_ret
              refine ⟨ret_val ?_, rfl⟩
              rw [HR.out]; simp [h, h1]
            · have h1' : ((l.length : Int) == 1) = false := by simp; omega
              go_wp2
              go_ret
              refine ⟨ret_val ?_, rfl⟩
              rw [HR.out]; simp [h, h1]
          · have hz2 : ((x0 : Int) != 48) = true := by simp; omega
            go_wp2
            go_ret
            refine ⟨ret_val ?_, rfl⟩
            rw [HR.out]; simp [h]
    · have hl0 : l = [] := List.length_eq_zero_iff.1 (by omega)
      subst hl0
      go_enter Tryz.func85, Tryz.ntmps85
      go_wp2
      go_loop [3] (fun i => i = .int .i64 0) (fun _ => 0)
      case atStart => rfl
      case round =>
        subst hrel
        go_wp2
        go_ret
        exact ⟨rfl, rfl⟩

  · go_enter Tryz.func85, Tryz.ntmps85
    go_wp2
    go_ret
    exact ⟨ret_val (by simp), rfl⟩


theorem plain_any (l : List UInt8) (w : World) (hl : l.length ≤ maxLen) :
    Calls Tryz.prog 85 #[.string ⟨l.toArray⟩] w fun e w' => e = .returned (.bool (plainB l)) ∧ w' = w := by
  cases l with
  | nil => exact plain_no [] w hl (by simp)
  | cons c t =>
    by_cases h : c = 45
    · subst h
      refine (plain_neg t w hl).mono ?_
      rintro e w' ⟨rfl, rfl⟩
      refine ⟨ret_val (congrArg Value.bool ?_), rfl⟩
      have hd : digitsOf (45 :: t) = t := by simp [digitsOf]
      unfold restB plainB
      rw [hd]
      match t with
      | [] => simp
      | [x] =>
        by_cases h : x = 48
        · subst h; decide
        · have e1 : (x == 48) = false := by simpa using h
          have e2 : (some x != some 48) = true := by simp [h]
          simp [e1, e2]
      | x :: y :: u => simp [Bool.and_comm]
    · refine (plain_no (c :: t) w hl (by simp [h])).mono ?_
      rintro e w' ⟨rfl, rfl⟩
      refine ⟨ret_val (congrArg Value.bool ?_), rfl⟩
      have hd : digitsOf (c :: t) = c :: t := by simp [digitsOf, h]
      unfold restB plainB
      rw [hd]
      match t with
      | [] => by_cases h : c = 48 <;> simp [h]
      | y :: u => simp [Bool.and_comm]

end Go.Proofs.YtimcbmgmngkagaaGreatDoor

namespace Go.Proofs.YtimcbmgmngkagaaGreatDoor
open Go.RowKit

abbrev BR : Nat := 10000

/-- A sign and a slice of digits say the integer z. -/
structure RIs (w : World) (neg : Bool) (p : Option Addr) (n c : Nat) (xs : List Nat) (z : Int) : Prop where
  rd : Rd .i64 w p n xs
  cap : n ≤ c
  cn : Cn BR xs
  pos : neg = true → 0 < n
  val : z = sv neg (dv BR xs)

/-- What a call hands back: an integer of at most L digits. -/
def RV (w : World) (z : Int) (L : Nat) (e : Ending) (w' : World) : Prop :=
  ∃ neg p n c xs, e = .returned (.agg #[.bool neg, .slice p n c]) ∧ RIs w' neg p n c xs z ∧ n ≤ L ∧ Below w.heap.size w w'

theorem RIs.below {w w' : World} {neg : Bool} {p : Option Addr} {n c : Nat} {xs : List Nat} {z : Int} (h : RIs w neg p n c xs z) (hb : Below w.heap.size w w') : RIs w' neg p n c xs z := { h with rd := h.rd.below hb }

theorem RIs.zero (w : World) : RIs w false none 0 0 [] 0 := { rd := Rd.nil _ _ _, cap := Nat.le_refl _, cn := Cn.nil _, pos := (by intro h; cases h), val := rfl }

theorem sv_and' (b : Nat) (neg : Bool) (zs : List Nat) : sv (neg && decide (0 < zs.length)) (dv b zs) = sv neg (dv b zs) := by
  cases neg
  · rfl
  · by_cases hz : 0 < zs.length
    · simp [hz]
    · have : zs = [] := List.length_eq_zero_iff.1 (by omega)
      subst this; rfl

theorem Rd.boxI {W : World} {p : Option Addr} {n : Nat} {xs : List Nat} (h : Rd .i64 W p n xs) {B i : Nat} {neg : Bool} {q : Option Addr} {k c : Nat} {t : TypeId} (hb : Boxed2 W B (.bool neg) (.slice q k c) t) (v : Value) : Rd .i64 (W.setCell ⟨B, i, none⟩ v) p n xs := by
  refine ⟨h.1, fun j hj => ?_⟩
  obtain ⟨b', off, hp, hlt, hc⟩ := h.2 j hj
  refine ⟨b', off, hp, by simpa using hlt, ?_⟩
  rw [World.cell?_setCell_other _ _ _ _ (fun e => ?_)]
  · exact hc
  · cases e
    rw [hb.cellAt] at hc
    match off + j, hc with
    | 0, hc => simp at hc
    | 1, hc => simp at hc
    | k + 2, hc => simp at hc

/-- The like; its digits lie where they did. -/
def RVp (w : World) (p : Option Addr) (z : Int) (L : Nat) (e : Ending) (w' : World) : Prop :=
  ∃ neg n c xs, e = .returned (.agg #[.bool neg, .slice p n c]) ∧ RIs w' neg p n c xs z ∧ n ≤ L ∧ Below w.heap.size w w'

set_option maxHeartbeats 1000000 in
theorem rnumber_at (neg : Bool) (p : Option Addr) (n c : Nat) (xs : List Nat) (w : World) (hn : n ≤ maxLen) (hc : n ≤ c) (hr : Rd .i64 w p n xs) (gx : Dg BR xs) :
    Calls Tryz.prog 72 #[.bool neg, .slice p n c] w (RVp w p (sv neg (dv BR xs)) n) := by
  unfold maxLen at hn
  have hb0 : Below w.heap.size w (w.alloc (.cells #[.bool false, .slice none 0 0] 31)) := (Below.refl _ w).alloc (Nat.le_refl _) _
  have b0 := Boxed2.new w (.bool false) (.slice none 0 0) 31
  have hr1 := hr.below hb0
  have c0 := b0.cell0
  have c1 := b0.cell1
  have q0 := b0.frozen (i := 0)
  have q1 := b0.frozen (i := 1)
  have fin : ∀ k, k = trimLen xs n → RVp w p (sv neg (dv BR xs)) n (.returned (.agg #[.bool (neg && decide (0 < k)), .slice p k k])) (w.alloc (.cells #[.bool (neg && decide (0 < k)), .slice p k k] 31)) := by
    rintro k rfl
    have h1 : trimLen xs n ≤ n := trimLen_le _ _
    have hl := hr.1
    have hz : trimZ xs = xs.take (trimLen xs n) := by unfold trimZ; rw [hl]
    have hbk : Below w.heap.size w (w.alloc (.cells #[.bool (neg && decide (0 < trimLen xs n)), .slice p (trimLen xs n) (trimLen xs n)] 31)) := (Below.refl _ w).alloc (Nat.le_refl _) _
    have hrd := (hr.below hbk).take (trimLen xs n) h1
    rw [← hz] at hrd
    refine ⟨_, _, _, trimZ xs, rfl, { rd := hrd, cap := Nat.le_refl _, cn := trimZ_cn gx, pos := by simp, val := ?_ }, h1, hbk⟩
    rw [← hrd.1, sv_and' BR, dv_trimZ]
  have FIN := Lib.hid fin
  clear fin
  go_enter Tryz.func72, Tryz.ntmps72
  go_wp2
  go_loop [5] (fun i => ∃ k : Nat, k ≤ n ∧ i = .int .i64 k ∧ Hid (trimLen xs k = trimLen xs n)) (fun i => (intOf i).toNat)
  case atStart => exact ⟨n, Nat.le_refl _, rfl, rfl⟩
  case round =>
    obtain ⟨k, hk, rfl, ht⟩ := hrel
    cases k with
    | zero =>
      have HT := FIN.out 0 ht.out
      have z0 := (Boxed2.new w (.bool false) (.slice p 0 0) 31).cell0
      have z1 := (Boxed2.new w (.bool false) (.slice p 0 0) 31).cell1
      cases neg
      all_goals
        go_wp2
        exact bodyPost_ret (v := .agg #[.bool false, .slice p 0 0]) (by simp [results, Tryz.results72, go_sem, z0, z1]) rfl (by simpa using HT)
    | succ k =>
      obtain ⟨b, off, rfl, hb, hcell⟩ := hr1.2 k (by omega)
      cases neg
      all_goals
        go_wp2
        · go_round
          case rel =>
            have h1 : (((xs[k]?.getD 0 : Nat) : Int) == 0) = true := by assumption
            exact ⟨k, by omega, by go_num, (trimLen_cut (by simpa using h1)).symm.trans ht.out⟩
          case measure => simp [intOf]
        · have h1 : (((xs[k]?.getD 0 : Nat) : Int) == 0) = false := by assumption
          have HT := FIN.out (k + 1) ((trimLen_keep (by simpa using h1)).symm.trans ht.out)
          have y0 := fun v => (Boxed2.new w (.bool v) (.slice (some ⟨b, off, none⟩) (k + 1) (k + 1)) 31).cell0
          have y1 := fun v => (Boxed2.new w (.bool v) (.slice (some ⟨b, off, none⟩) (k + 1) (k + 1)) 31).cell1
          first
            | exact bodyPost_ret (v := .agg #[.bool false, .slice (some ⟨b, off, none⟩) (k + 1) (k + 1)]) (by simp [results, Tryz.results72, go_sem, y0, y1]) rfl (by simpa using HT)
            | exact bodyPost_ret (v := .agg #[.bool true, .slice (some ⟨b, off, none⟩) (k + 1) (k + 1)]) (by simp [results, Tryz.results72, go_sem, y0, y1]) rfl (by simpa using HT)

theorem rnumber_any (neg : Bool) (p : Option Addr) (n c : Nat) (xs : List Nat) (w : World) (hn : n ≤ maxLen) (hc : n ≤ c) (hr : Rd .i64 w p n xs) (gx : Dg BR xs) :
    Calls Tryz.prog 72 #[.bool neg, .slice p n c] w (RV w (sv neg (dv BR xs)) n) :=
  (rnumber_at neg p n c xs w hn hc hr gx).mono fun _ _ ⟨neg', n', c', xs', h⟩ => ⟨neg', p, n', c', xs', h⟩

end Go.Proofs.YtimcbmgmngkagaaGreatDoor

namespace Go.Proofs.YtimcbmgmngkagaaGreatDoor
open Go.RowKit

def icells (ns : List Nat) : List Value := ns.map fun (n : Nat) => Value.int .i64 (n : Int)
theorem icells_append (a b : List Nat) : icells (a ++ b) = icells a ++ icells b := by simp [icells]

/-- A slice of digits that the call has made. -/
def GrI (w : World) (base : Nat) (v : Value) (ns : List Nat) : Prop := w.ownsRow base 3 1 v ns.length (icells ns)
/-- A slice of bytes that the call has made. -/
def GrB (w : World) (base : Nat) (v : Value) (l : List UInt8) : Prop := w.ownsRow base 5 1 v l.length (bcells l)

theorem ownsRow_nil (w : World) (base : Nat) (e : TypeId) : w.ownsRow base e 1 (.slice none 0 0) 0 [] := ⟨rfl, .inl ⟨rfl, rfl⟩⟩
theorem GrI.nil (w : World) (base : Nat) : GrI w base (.slice none 0 0) [] := ownsRow_nil _ _ _
theorem GrB.nil (w : World) (base : Nat) : GrB w base (.slice none 0 0) [] := ownsRow_nil _ _ _

theorem own_block_ge {w : World} {base : Nat} {e : TypeId} {v : Value} {n : Nat} {xs : List Value} (h : w.ownsRow base e 1 v n xs) {k : Nat} (hk : k < base) : some k ≠ v.ownBlock := by
  rcases h.2 with ⟨rfl, _⟩ | ⟨g, cap, cur, rfl, hb, _⟩
  · intro e; cases e
  · intro e; simp [Value.ownBlock] at e; omega

theorem below_of_own {w w' : World} {base : Nat} {e : TypeId} {v : Value} {n : Nat} {xs : List Value} (h : w.ownsRow base e 1 v n xs) (hg : w.grownBy w' v.ownBlock) (hb : base ≤ w.heap.size) : Below base w w' :=
  ⟨hg.os, hg.tape, hg.output, hg.size, fun k hk => hg.block k (by omega) (own_block_ge h hk)⟩

theorem own_form {w : World} {base : Nat} {e : TypeId} {v : Value} {n : Nat} {xs : List Value} (h : w.ownsRow base e 1 v n xs) : ∃ p c, v = .slice p n c ∧ n ≤ c := by
  rcases h.2 with ⟨rfl, rfl⟩ | ⟨g, cap, cur, rfl, hb, _, hc, _⟩
  · exact ⟨none, 0, rfl, Nat.le_refl _⟩
  · exact ⟨_, cap, rfl, hc⟩

theorem GrI.rd {w : World} {base : Nat} {v : Value} {ns : List Nat} (h : GrI w base v ns) : ∃ p c, v = .slice p ns.length c ∧ ns.length ≤ c ∧ Rd .i64 w p ns.length ns := by
  rcases h.2 with ⟨rfl, hn⟩ | ⟨g, cap, cur, rfl, hb, hg, hc, _, hs, ht⟩
  · rw [hn]
    have : ns = [] := List.length_eq_zero_iff.1 hn
    subst this
    exact ⟨none, 0, rfl, Nat.le_refl _, Rd.nil _ _ _⟩
  · refine ⟨_, cap, rfl, hc, rfl, fun i hi => ⟨g, 0, rfl, (Array.getElem?_eq_some_iff.1 hg).1, ?_⟩⟩
    have h1 : (icells ns)[i]? = some (.int .i64 ((ns[i]?.getD 0 : Nat) : Int)) := by unfold icells; simp [hi]
    rw [← ht, Nat.mul_one, List.getElem?_take_of_lt hi] at h1
    rw [Nat.zero_add]
    simpa [World.cell?, hg] using h1

theorem GrI.ge {w : World} {base : Nat} {p : Option Addr} {n c : Nat} {ns : List Nat} (h : GrI w base (.slice p n c) ns) : ∀ b o, p = some ⟨b, o, none⟩ → base ≤ b := by
  intro b o hp
  rcases h.2 with ⟨e, _⟩ | ⟨g, cap, cur, e, hb, _⟩
  · cases e; cases hp
  · cases e; cases hp; exact hb

/-- A store into another block. -/
theorem Rd.setFar {k : IntKind} {w : World} {p : Option Addr} {n : Nat} {xs : List Nat} (h : Rd k w p n xs) {B i : Nat} (hne : ∀ b o, p = some ⟨b, o, none⟩ → b ≠ B) (v : Value) : Rd k (w.setCell ⟨B, i, none⟩ v) p n xs := by
  refine ⟨h.1, fun j hj => ?_⟩
  obtain ⟨b, off, hp, hlt, hc⟩ := h.2 j hj
  refine ⟨b, off, hp, by simpa using hlt, ?_⟩
  rw [World.cell?_setCell_other _ _ _ _ (fun e => hne b off hp (by cases e; rfl))]
  exact hc

theorem GrI.below {w w' : World} {base : Nat} {v : Value} {ns : List Nat} (h : GrI w base v ns) (hb : Below w.heap.size w w') : GrI w' base v ns :=
  own_below h hb
theorem GrB.below {w w' : World} {base : Nat} {v : Value} {l : List UInt8} (h : GrB w base v l) (hb : Below w.heap.size w w') : GrB w' base v l :=
  own_below h hb

/-- append(d, x), as the walk meets it. -/
theorem pushI_law {ops : Array Oper} {Q : Exit → Act → World → Prop} {o : Oper} {rest : List Oper} {a : Act} {W : World} (hgd : o.guard = none) (s x : Operand)
    (ho : o.op = .call { callee := .builtin .append, args := #[s, x], argTypes := #[29, 29] }) {base : Nat} {v : Value} {ns : List Nat} (hs : a.eval s = v) (h : GrI W base v ns) (d : Nat)
    (hx : a.eval x = .slice (some ⟨W.heap.size, 0, none⟩) 1 1) (hl : ns.length ≤ 1000000000000) (hbase : base ≤ W.heap.size)
    (k : ∀ v' w', GrI w' base v' (ns ++ [d]) → Below base W w' → wpList Tryz.prog ops Q rest (a.put o.dst v') w') : wpList Tryz.prog ops Q (o :: rest) a (W.alloc (.cells #[.int .i64 (d : Int)] 3)) := by
  obtain ⟨i0, hi, hz0, hz1, hz2⟩ := info_parts Tryz.info3
  have hg0 := World.grownBy_alloc W (.cells #[.int .i64 (d : Int)] 3) none
  have h' : (W.alloc (.cells #[.int .i64 (d : Int)] 3)).ownsRow base 3 1 v ns.length (icells ns) := World.ownsRow.kept h hg0 (by cases v.ownBlock <;> simp)
  have hc : (W.alloc (.cells #[.int .i64 (d : Int)] 3)).cell? ⟨W.heap.size, 0, none⟩ = some (.int .i64 (d : Int)) := by simp [go_sem]
  refine wpList_append_own _ hgd s x 29 ho base 3 i0 (.int .i64 0) 1 8 Tryz.underlying29 hi hz0 hz1 hz2 rfl (by decide) v ns.length (icells ns) hs h' ⟨W.heap.size, 0, none⟩ 1 1 [.int .i64 (d : Int)] hx rfl
    (by intro j u hj; match j, hj with | 0, hj => simp at hj; subst hj; simp [Addr.add]) (by simp [Value.oneCell']) (by unfold maxLen; omega) (by omega) (by rw [World.size_alloc]; omega) ?_
  intro v' w' h2 h3 _
  refine k v' w' ?_ ?_
  · unfold GrI; rw [List.length_append, icells_append]; exact h2
  · exact ((Below.refl _ _).alloc hbase _).trans (below_of_own h' h3 (by rw [World.size_alloc]; omega))

theorem pushB_law {ops : Array Oper} {Q : Exit → Act → World → Prop} {o : Oper} {rest : List Oper} {a : Act} {W : World} (hgd : o.guard = none) (s x : Operand)
    (ho : o.op = .call { callee := .builtin .append, args := #[s, x], argTypes := #[70, 70] }) {base : Nat} {v : Value} {l : List UInt8} (hs : a.eval s = v) (h : GrB W base v l) (d : Nat) (hd : d < 256)
    (hx : a.eval x = .slice (some ⟨W.heap.size, 0, none⟩) 1 1) (hl : l.length ≤ 1000000000000) (hbase : base ≤ W.heap.size)
    (k : ∀ v' w', GrB w' base v' (l ++ [UInt8.ofNat d]) → Below base W w' → wpList Tryz.prog ops Q rest (a.put o.dst v') w') : wpList Tryz.prog ops Q (o :: rest) a (W.alloc (.cells #[.int .u8 (d : Int)] 5)) := by
  obtain ⟨i0, hi, hz0, hz1, hz2⟩ := info_parts Tryz.info5
  have hg0 := World.grownBy_alloc W (.cells #[.int .u8 (d : Int)] 5) none
  have h' : (W.alloc (.cells #[.int .u8 (d : Int)] 5)).ownsRow base 5 1 v l.length (bcells l) := World.ownsRow.kept h hg0 (by cases v.ownBlock <;> simp)
  have hc : (W.alloc (.cells #[.int .u8 (d : Int)] 5)).cell? ⟨W.heap.size, 0, none⟩ = some (.int .u8 (d : Int)) := by simp [go_sem]
  refine wpList_append_own _ hgd s x 70 ho base 5 i0 (.int .u8 0) 1 1 Tryz.underlying70 hi hz0 hz1 hz2 rfl (by decide) v l.length (bcells l) hs h' ⟨W.heap.size, 0, none⟩ 1 1 [.int .u8 (d : Int)] hx rfl
    (by intro j u hj; match j, hj with | 0, hj => simp at hj; subst hj; simp [Addr.add]) (by simp [Value.oneCell']) (by unfold maxLen; omega) (by omega) (by rw [World.size_alloc]; omega) ?_
  intro v' w' h2 h3 _
  refine k v' w' ?_ ?_
  · unfold GrB
    rw [List.length_append, bcells_append]
    have e : bcells [UInt8.ofNat d] = [Value.int .u8 (d : Int)] := by simp [bcells]; omega
    rw [e]; exact h2
  · exact ((Below.refl _ _).alloc hbase _).trans (below_of_own h' h3 (by rw [World.size_alloc]; omega))

end Go.Proofs.YtimcbmgmngkagaaGreatDoor

namespace Go.Proofs.YtimcbmgmngkagaaGreatDoor
open Go.RowKit Go.Sort

def inI64 (z : Int) : Bool := decide (-9223372036854775808 ≤ z ∧ z ≤ 9223372036854775807)

theorem fold_le (l : List UInt8) : ∀ acc, acc ≤ l.foldl (fun a c => a * 10 + (c.toNat - 48)) acc := by
  induction l with
  | nil => intro acc; exact Nat.le_refl _
  | cons c r ih => intro acc; rw [List.foldl_cons]; exact Nat.le_trans (by omega) (ih _)

theorem parseM_digits (l : List UInt8) : ∀ acc F, l.foldl (fun a c => a * 10 + (c.toNat - 48)) acc = F → l.all isDg = true → acc ≤ 18446744073709551615 → Lib.parseUintM (2 ^ 64 - 1) acc l = if F ≤ 18446744073709551615 then .ok F else .range := by
  induction l with
  | nil => intro acc F hF _ h; rw [← hF]; exact (if_pos h).symm
  | cons c r ih =>
    intro acc F hF hd h
    rw [List.all_cons, Bool.and_eq_true] at hd
    rw [List.foldl_cons] at hF
    have hc : 48 ≤ c.toNat ∧ c.toNat ≤ 57 := by simpa [isDg] using hd.1
    have hle := fold_le r (acc * 10 + (c.toNat - 48))
    rw [hF] at hle
    unfold Lib.parseUintM
    rw [if_pos hc]
    by_cases h1 : 1844674407370955162 ≤ acc
    · rw [if_pos h1, if_neg (by omega)]
    · rw [if_neg h1]
      by_cases h2 : 2 ^ 64 - 1 < acc * 10 + (c.toNat - 48)
      · rw [if_pos h2, if_neg (by omega)]
      · rw [if_neg h2]
        exact ih _ _ hF hd.2 (by omega)

theorem numB_len {l : List UInt8} (h : numB l = true) : l.length ≤ 2001 := by
  unfold numB at h
  rw [Bool.and_eq_true] at h
  have h2 : (digitsOf l).length ≤ 2000 := by simpa using h.2
  have h3 : l.length ≤ (digitsOf l).length + 1 := by
    cases l with
    | nil => simp
    | cons c r => by_cases hc : c = 45 <;> simp [digitsOf, hc]
  omega

theorem parse_num {l : List UInt8} (h : numB l = true) : Lib.parseIntB 64 l = if inI64 (strV l) then .ok (strV l) else .range := by
  have hp : plainB l = true := by unfold numB at h; rw [Bool.and_eq_true] at h; exact h.1
  unfold plainB at hp
  rw [Bool.and_eq_true, Bool.and_eq_true] at hp
  obtain ⟨⟨h1, h2⟩, _⟩ := hp
  have hu : Lib.parseUintB 64 (digitsOf l) = if decV (digitsOf l) ≤ 18446744073709551615 then .ok (decV (digitsOf l)) else .range := by
    unfold Lib.parseUintB
    rw [if_neg (by intro e; rw [e] at h1; simp at h1)]
    exact parseM_digits _ 0 _ rfl h2 (by omega)
  match l, h1, h2, hu with
  | [], h1, _, _ => simp [digitsOf] at h1
  | c :: r, h1, h2, hu =>
    by_cases hc : c = 45
    · subst hc
      have e : digitsOf (45 :: r) = r := rfl
      rw [e] at hu h1
      rw [Lib.parseIntB_minus, hu]
      have ev : strV (45 :: r) = -(decV r : Int) := rfl
      rw [ev]
      generalize decV r = D
      unfold inI64
      by_cases hD : D ≤ 18446744073709551615
      · rw [if_pos hD]
        simp only [Lib.signedC]
        by_cases h3 : 2 ^ (64 - 1) < D
        · rw [if_pos h3, if_neg (by simp; omega)]
        · rw [if_neg h3, if_pos (by simp; omega)]
      · rw [if_neg hD, if_neg (by simp; omega)]
        rfl
    · have e : digitsOf (c :: r) = c :: r := by simp [digitsOf, hc]
      rw [e] at hu h2
      have hd : 48 ≤ c.toNat ∧ c.toNat ≤ 57 := by
        rw [List.all_cons, Bool.and_eq_true] at h2
        simpa [isDg] using h2.1
      rw [Lib.parseIntB_plain 64 c r (by omega) (by omega), hu]
      have ev : strV (c :: r) = (decV (c :: r) : Int) := by
        unfold strV
        rw [e]
        have : isNeg (c :: r) = false := by simp [isNeg, hc]
        rw [this]; rfl
      rw [ev]
      generalize decV (c :: r) = D
      unfold inI64
      by_cases hD : D ≤ 18446744073709551615
      · rw [if_pos hD]
        simp only [Lib.signlessC]
        by_cases h3 : 2 ^ (64 - 1) ≤ D
        · rw [if_pos h3, if_neg (by simp; omega)]
        · rw [if_neg h3, if_pos (by simp; omega)]
      · rw [if_neg hD, if_neg (by simp; omega)]
        rfl

/-- The variable strconv.ErrRange holds an error, or nothing. -/
def ErrLaid (w : World) : Prop := ∃ ev, w.cell? ⟨2, 0, none⟩ = some ev ∧ (ev = .nilIface ∨ ∃ te pe, ev = .iface te pe)
theorem ErrLaid.below {w w' : World} (h : ErrLaid w) (hb : Below w.heap.size w w') : ErrLaid w' := by
  obtain ⟨ev, h1, h2⟩ := h
  exact ⟨ev, (hb.cell (World.block_lt_of_cell? _ _ h1)).trans h1, h2⟩

/-- What ToInt hands back. -/
def toOk (l : List UInt8) : Bool := numB l && inI64 (strV l)
def toInt (l : List UInt8) : Int := if toOk l then strV l else 0

set_option maxHeartbeats 1000000 in
theorem toInt_any (s : ByteArray) (w : World) (hs : s.size ≤ maxLen) (herr : ErrLaid w) :
    Calls Tryz.prog 79 #[.string s] w fun e w' => e = .returned (.tuple #[.int .i64 (toInt s.data.toList), .bool (toOk s.data.toList)]) ∧ Below w.heap.size w w' := by
  cases hn : numB s.data.toList
  · have h1 : toOk s.data.toList = false := by unfold toOk; rw [hn]; rfl
    have h2 : toInt s.data.toList = 0 := by unfold toInt; rw [if_neg (by rw [h1]; simp)]
    rw [h1, h2]
    have HN := Lib.hid hn
    clear h1 h2 hn
    go_enter Tryz.func79, Tryz.ntmps79
    go_wp2_with (go_at_call 80; refine (is_any s _ hs).mono ?_; rintro e w1 ⟨rfl, hb1⟩; rw [HN.out])
    go_ret2
    exact ⟨rfl, hb1⟩
  · have hl : s.size ≤ 2001 := numB_len hn
    cases hi : inI64 (strV s.data.toList)
    · have h1 : toOk s.data.toList = false := by unfold toOk; rw [hn, hi]; rfl
      have h2 : toInt s.data.toList = 0 := by unfold toInt; rw [if_neg (by rw [h1]; simp)]
      have h3 : Lib.parseIntB 64 s.data.toList = .range := by rw [parse_num hn, hi]; rfl
      rw [h1, h2]
      have HN := Lib.hid hn
      clear h1 h2 hn
      go_enter Tryz.func79, Tryz.ntmps79
      go_wp2_with (first
        | (go_at_call 80; refine (is_any s _ hs).mono ?_; rintro e w1 ⟨rfl, hb1⟩; rw [HN.out]; obtain ⟨ev, g1, g2⟩ := herr.below hb1)
        | (go_at_call 122; refine (Tryz.strconv_ParseInt_10_at64_range s (by omega) h3 ev _ g1 g2).mono ?_; rintro e w2 ⟨N, rfl, _, _, hb2⟩))
      go_ret2
      exact ⟨rfl, hb1.trans (hb2.mono hb1.size)⟩
    · have h1 : toOk s.data.toList = true := by unfold toOk; rw [hn, hi]; rfl
      have h2 : toInt s.data.toList = strV s.data.toList := by unfold toInt; rw [if_pos h1]
      have h3 : Lib.parseIntB 64 s.data.toList = .ok (strV s.data.toList) := by rw [parse_num hn, hi]; rfl
      rw [h1, h2]
      have HN := Lib.hid hn
      clear h1 h2 hn
      go_enter Tryz.func79, Tryz.ntmps79
      go_wp2_with (first
        | (go_at_call 80; refine (is_any s _ hs).mono ?_; rintro e w1 ⟨rfl, hb1⟩; rw [HN.out])
        | (go_at_call 122; refine (Tryz.strconv_ParseInt_10_at64_ok s (by omega) _ h3 _).mono ?_; rintro e w2 ⟨rfl, hb2⟩))
      go_ret2
      refine ⟨rfl, hb1.trans ?_⟩
      rcases hb2 with rfl | ⟨t, rfl⟩
      · exact (Below.refl _ _).mono hb1.size
      · exact (Lib.bytesWorld_below _ _ _).mono hb1.size

end Go.Proofs.YtimcbmgmngkagaaGreatDoor
