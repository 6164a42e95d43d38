/-
  The reference's integers: digits to the base 10000.
-/
import Derived.Test.YtapfkinpdinbgaaDoorSum
import Derived.Test.YtapfkinpdinbgaaDoorRefStr
namespace Go.Proofs.YtapfkinpdinbgaaDoor
open Go.RowKit

abbrev BR : Nat := 10000

/-- A sign and a slice of digits say the integer z. -/
structure RIs (w : World) (neg : Bool) (p : Option Addr) (n c : Nat) (xs : List Nat) (z : Int) : Prop where
  rd : Rd .i64 w p n xs
  cap : n ≤ c
  cn : Cn BR xs
  pos : neg = true → 0 < n
  val : z = sv neg (dv BR xs)

/-- What a call hands back: an integer of at most L digits. -/
def RV (w : World) (z : Int) (L : Nat) (e : Ending) (w' : World) : Prop :=
  ∃ neg p n c xs, e = .returned (.agg #[.bool neg, .slice p n c]) ∧ RIs w' neg p n c xs z ∧ n ≤ L ∧ Below w.heap.size w w'

theorem RIs.below {w w' : World} {neg : Bool} {p : Option Addr} {n c : Nat} {xs : List Nat} {z : Int} (h : RIs w neg p n c xs z) (hb : Below w.heap.size w w') : RIs w' neg p n c xs z := { h with rd := h.rd.below hb }

theorem sv_and' (b : Nat) (neg : Bool) (zs : List Nat) : sv (neg && decide (0 < zs.length)) (dv b zs) = sv neg (dv b zs) := by
  cases neg
  · rfl
  · by_cases hz : 0 < zs.length
    · simp [hz]
    · have : zs = [] := List.length_eq_zero_iff.1 (by omega)
      subst this; rfl

theorem Rd.boxI {W : World} {p : Option Addr} {n : Nat} {xs : List Nat} (h : Rd .i64 W p n xs) {B i : Nat} {neg : Bool} {q : Option Addr} {k c : Nat} {t : TypeId} (hb : Boxed2 W B (.bool neg) (.slice q k c) t) (v : Value) : Rd .i64 (W.setCell ⟨B, i, none⟩ v) p n xs := by
  refine ⟨h.1, fun j hj => ?_⟩
  obtain ⟨b', off, hp, hlt, hc⟩ := h.2 j hj
  refine ⟨b', off, hp, by simpa using hlt, ?_⟩
  rw [World.cell?_setCell_other _ _ _ _ (fun e => ?_)]
  · exact hc
  · cases e
    rw [hb.cellAt] at hc
    match off + j, hc with
    | 0, hc => simp at hc
    | 1, hc => simp at hc
    | k + 2, hc => simp at hc

set_option maxHeartbeats 1000000 in
theorem rnumber_any (neg : Bool) (p : Option Addr) (n c : Nat) (xs : List Nat) (w : World) (hn : n ≤ maxLen) (hc : n ≤ c) (hr : Rd .i64 w p n xs) (gx : Dg BR xs) :
    Calls Tryd.prog 46 #[.bool neg, .slice p n c] w (RV w (sv neg (dv BR xs)) n) := by
  unfold maxLen at hn
  have hb0 : Below w.heap.size w (w.alloc (.cells #[.bool false, .slice none 0 0] 29)) := (Below.refl _ w).alloc (Nat.le_refl _) _
  have b0 := Boxed2.new w (.bool false) (.slice none 0 0) 29
  have hr1 := hr.below hb0
  have c0 := b0.cell0
  have c1 := b0.cell1
  have q0 := b0.frozen (i := 0)
  have q1 := b0.frozen (i := 1)
  have fin : ∀ k, k = trimLen xs n → RV w (sv neg (dv BR xs)) n (.returned (.agg #[.bool (neg && decide (0 < k)), .slice p k k])) (w.alloc (.cells #[.bool (neg && decide (0 < k)), .slice p k k] 29)) := by
    rintro k rfl
    have h1 : trimLen xs n ≤ n := trimLen_le _ _
    have hl := hr.1
    have hz : trimZ xs = xs.take (trimLen xs n) := by unfold trimZ; rw [hl]
    have hbk : Below w.heap.size w (w.alloc (.cells #[.bool (neg && decide (0 < trimLen xs n)), .slice p (trimLen xs n) (trimLen xs n)] 29)) := (Below.refl _ w).alloc (Nat.le_refl _) _
    have hrd := (hr.below hbk).take (trimLen xs n) h1
    rw [← hz] at hrd
    refine ⟨_, p, _, _, trimZ xs, rfl, { rd := hrd, cap := Nat.le_refl _, cn := trimZ_cn gx, pos := by simp, val := ?_ }, h1, hbk⟩
    rw [← hrd.1, sv_and' BR, dv_trimZ]
  have FIN := Lib.hid fin
  clear fin
  go_enter Tryd.func46, Tryd.ntmps46
  go_wp2
  go_loop [5] (fun i => ∃ k : Nat, k ≤ n ∧ i = .int .i64 k ∧ Hid (trimLen xs k = trimLen xs n)) (fun i => (intOf i).toNat)
  case atStart => exact ⟨n, Nat.le_refl _, rfl, rfl⟩
  case round =>
    obtain ⟨k, hk, rfl, ht⟩ := hrel
    cases k with
    | zero =>
      have HT := FIN.out 0 ht.out
      have z0 := (Boxed2.new w (.bool false) (.slice p 0 0) 29).cell0
      have z1 := (Boxed2.new w (.bool false) (.slice p 0 0) 29).cell1
      cases neg
      all_goals
        go_wp2
        exact bodyPost_ret (v := .agg #[.bool false, .slice p 0 0]) (by simp [results, Tryd.results46, go_sem, z0, z1]) rfl (by simpa using HT)
    | succ k =>
      obtain ⟨b, off, rfl, hb, hcell⟩ := hr1.2 k (by omega)
      cases neg
      all_goals
        go_wp2
        · go_round
          case rel =>
            have h1 : (((xs[k]?.getD 0 : Nat) : Int) == 0) = true := by assumption
            exact ⟨k, by omega, by go_num, (trimLen_cut (by simpa using h1)).symm.trans ht.out⟩
          case measure => simp [intOf]
        · have h1 : (((xs[k]?.getD 0 : Nat) : Int) == 0) = false := by assumption
          have HT := FIN.out (k + 1) ((trimLen_keep (by simpa using h1)).symm.trans ht.out)
          have y0 := fun v => (Boxed2.new w (.bool v) (.slice (some ⟨b, off, none⟩) (k + 1) (k + 1)) 29).cell0
          have y1 := fun v => (Boxed2.new w (.bool v) (.slice (some ⟨b, off, none⟩) (k + 1) (k + 1)) 29).cell1
          first
            | exact bodyPost_ret (v := .agg #[.bool false, .slice (some ⟨b, off, none⟩) (k + 1) (k + 1)]) (by simp [results, Tryd.results46, go_sem, y0, y1]) rfl (by simpa using HT)
            | exact bodyPost_ret (v := .agg #[.bool true, .slice (some ⟨b, off, none⟩) (k + 1) (k + 1)]) (by simp [results, Tryd.results46, go_sem, y0, y1]) rfl (by simpa using HT)

end Go.Proofs.YtapfkinpdinbgaaDoor
