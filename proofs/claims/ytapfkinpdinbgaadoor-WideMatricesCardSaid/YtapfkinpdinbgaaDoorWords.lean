/-
  The words of a number: zeros at the top cut off; sums.
-/
import Derived.Test.YtapfkinpdinbgaaDoorBase
namespace Go.Proofs.YtapfkinpdinbgaaDoor
open Go.RowKit

set_option maxHeartbeats 400000 in
theorem trimmed_any (p : Option Addr) (n c : Nat) (xs : List Nat) (w : World) (hn : n ≤ maxLen) (hc : n ≤ c) (hr : Rd .u64 w p n xs) :
    Calls Tryd.prog 80 #[.slice p n c] w fun e w' => e = .returned (.slice p (trimLen xs n) (trimLen xs n)) ∧ w' = w := by
  unfold maxLen at hn
  go_enter Tryd.func80, Tryd.ntmps80
  go_wp2
  go_loop [3] (fun i => ∃ k : Nat, k ≤ n ∧ i = .int .i64 k ∧ Hid (trimLen xs k = trimLen xs n)) (fun i => (intOf i).toNat)
  case atStart => exact ⟨n, Nat.le_refl _, rfl, rfl⟩
  case round =>
    obtain ⟨k, hk, rfl, ht⟩ := hrel
    cases k with
    | zero =>
      have HT := ht.out
      go_wp2
      go_ret
      rw [← HT]; exact ⟨rfl, rfl⟩
    | succ k =>
      obtain ⟨b, off, rfl, hb, hcell⟩ := hr.2 k (by omega)
      go_wp2
      · go_round
        case rel =>
          have h1 : (((xs[k]?.getD 0 : Nat) : Int) == 0) = true := by assumption
          exact ⟨k, by omega, by go_num, (trimLen_cut (by simpa using h1)).symm.trans ht.out⟩
        case measure => simp [intOf]
      · have h1 : (((xs[k]?.getD 0 : Nat) : Int) == 0) = false := by assumption
        have h3 := (trimLen_keep (by simpa using h1)).symm.trans ht.out
        go_ret
        rw [← h3]; exact ⟨rfl, rfl⟩

/-- Words that are new, in their one form. -/
def Words (w : World) (P : List Nat → Prop) (e : Ending) (w' : World) : Prop :=
  ∃ p n c zs, e = .returned (.slice p n c) ∧ Rd .u64 w' p n zs ∧ n ≤ c ∧ Cn BW zs ∧ P zs ∧ Below w.heap.size w w'

set_option maxHeartbeats 400000 in
theorem addWords_ge (p q : Option Addr) (n c m d : Nat) (xs ys : List Nat) (w : World) (hn : n ≤ 1000000000) (hm : m ≤ n)
    (hx : Rd .u64 w p n xs) (hy : Rd .u64 w q m ys) (gx : Dg BW xs) (gy : Dg BW ys) :
    Calls Tryd.prog 83 #[.slice p n c, .slice q m d] w (Words w fun zs => dv BW zs = dv BW xs + dv BW ys) := by
  have hmk : ∀ w, (Instr.makeSlice 77 (.int .i64 ((n : Int) + 1)) (.int .i64 ((n : Int) + 1))).run Tryd.prog w = .ok (.slice (some ⟨w.heap.size, 0, none⟩) (n + 1) (n + 1)) (w.alloc (.cells (Go.madeCells #[.int .u64 0] (n + 1)) 73)) := fun w => mkWords (n + 1) (by omega) w
  have hbn : Below w.heap.size w (w.alloc (.cells (Go.madeCells #[.int .u64 0] (n + 1)) 73)) := (Below.refl _ w).alloc (Nat.le_refl _) _
  have hown0 := Own.new .u64 73 w (n + 1)
  have hlm : decide (n < m) = false := by simp; omega
  go_enter Tryd.func83, Tryd.ntmps83
  go_wp2
  go_loopw [6, 22] (fun c i wr => ∃ (k y : Nat) (zs : List Nat), k ≤ n ∧ y ≤ 1 ∧ c = .int .u64 y ∧ i = .int .i64 k ∧ Hid (zs.length = k ∧ Dg BW zs ∧ dv BW zs + BW ^ k * y = dv BW (xs.take k) + dv BW (ys.take k))
      ∧ Own .u64 73 wr w.heap.size (zs ++ List.replicate (n + 1 - k) 0) ∧ Below w.heap.size w wr) (fun _ i _ => n - (intOf i).toNat)
  case atStart => exact ⟨0, 0, [], Nat.zero_le _, Nat.zero_le _, rfl, rfl, ⟨rfl, Dg.nil _, by simp [dv]⟩, hown0, hbn⟩
  case round =>
    obtain ⟨k, y, zs, hk, hy1, rfl, rfl, hz, hown, hbel⟩ := hrel
    by_cases hlt : k < n
    · obtain ⟨b, off, rfl, hb, hcell⟩ := (hx.below hbel).2 k hlt
      by_cases hlm : k < m
      · obtain ⟨b', off', rfl, hb', hcell'⟩ := (hy.below hbel).2 k hlm
        have hcz := hown.cell k (by have := hz.out.1; simp; omega)
        have hfz := hown.frozen k
        have b1 : xs[k]?.getD 0 < 1000000000 := gx.get (by decide) k
        have b2 : ys[k]?.getD 0 < 1000000000 := gy.get (by decide) k
        go_wp2
        go_roundw
        case rel =>
          obtain ⟨z1, z2, z3⟩ := hz.out
          have e1 : ((y : Int) + (xs[k]?.getD 0 : Nat) + (ys[k]?.getD 0 : Nat)) / 1000000000 = (((y + xs[k]?.getD 0 + ys[k]?.getD 0) / 1000000000 : Nat) : Int) := by omega
          have e2 : ((y : Int) + (xs[k]?.getD 0 : Nat) + (ys[k]?.getD 0 : Nat)) % 1000000000 = (((y + xs[k]?.getD 0 + ys[k]?.getD 0) % 1000000000 : Nat) : Int) := by omega
          rw [e1, e2]
          have g := add_step (x := xs[k]?.getD 0) (y := ys[k]?.getD 0) z3 rfl
          refine ⟨k + 1, _, zs ++ [(y + xs[k]?.getD 0 + ys[k]?.getD 0) % 1000000000], by omega, by omega, rfl, by go_num, ⟨by simp [z1], z2.append (Dg.cons (Nat.mod_lt _ (by decide)) (Dg.nil _)), ?_⟩, ?_, ?_⟩
          · rw [dv_snoc, z1, dv_take_succ, dv_take_succ]; exact g
          · subst z1; exact hown.fill (by omega) _ rfl _
          · exact hbel.setCell (by simp) _
        case measure => simp [intOf]; omega
      · have hcz := hown.cell k (by have := hz.out.1; simp; omega)
        have hfz := hown.frozen k
        have b1 : xs[k]?.getD 0 < 1000000000 := gx.get (by decide) k
        go_wp2
        go_roundw
        case rel =>
          obtain ⟨z1, z2, z3⟩ := hz.out
          have e0 : ys[k]?.getD 0 = 0 := by rw [List.getElem?_eq_none (by have := hy.1; omega)]; rfl
          have e1 : ((y : Int) + (xs[k]?.getD 0 : Nat)) / 1000000000 = (((y + xs[k]?.getD 0) / 1000000000 : Nat) : Int) := by omega
          have e2 : ((y : Int) + (xs[k]?.getD 0 : Nat)) % 1000000000 = (((y + xs[k]?.getD 0) % 1000000000 : Nat) : Int) := by omega
          rw [e1, e2]
          have g := add_step (x := xs[k]?.getD 0) (y := ys[k]?.getD 0) z3 rfl
          rw [e0, Nat.add_zero] at g
          refine ⟨k + 1, _, zs ++ [(y + xs[k]?.getD 0) % 1000000000], by omega, by omega, rfl, by go_num, ⟨by simp [z1], z2.append (Dg.cons (Nat.mod_lt _ (by decide)) (Dg.nil _)), ?_⟩, ?_, ?_⟩
          · rw [dv_snoc, z1, dv_take_succ, dv_take_succ, e0]; exact g
          · subst z1; exact hown.fill (by omega) _ rfl _
          · exact hbel.setCell (by simp) _
        case measure => simp [intOf]; omega
    · obtain rfl : k = n := by omega
      have hz1 := hz.out.1
      have hcz := hown.cell k (by simp; omega)
      have hfz := hown.frozen k
      have hown2 : Own .u64 73 (wr.setCell ⟨w.heap.size, k, none⟩ (.int .u64 (y : Int))) w.heap.size (zs ++ [y]) := by
        have h := Own.fill (N := k + 1) (zs := zs) (by rw [hz1]; exact hown) (by omega) k hz1.symm y
        simpa using h
      go_wp2_with (go_at_call 80; refine (trimmed_any _ _ _ (zs ++ [y]) _ (by unfold maxLen; omega) (Nat.le_refl _) (hown2.rd (by simp [hz1]))).mono ?_; rintro e w' ⟨rfl, rfl⟩)
      go_ret
      obtain ⟨z1, z2, z3⟩ := hz.out
      have hl : (zs ++ [y]).length = k + 1 := by simp [z1]
      have gd : Dg BW (zs ++ [y]) := z2.append (Dg.cons (show y < 1000000000 by omega) (Dg.nil _))
      have g1 : trimLen (zs ++ [y]) (k + 1) ≤ k + 1 := trimLen_le _ _
      refine ⟨_, _, _, trimZ (zs ++ [y]), rfl, ?_, Nat.le_refl _, trimZ_cn gd, ?_, hbel.setCell (by simp) _⟩
      · unfold trimZ; rw [hl]; exact (hown2.rd hl).take _ g1
      · show dv BW (trimZ _) = _
        rw [dv_trimZ, dv_snoc, z1, z3, List.take_of_length_le (by rw [hx.1]; exact Nat.le_refl _), List.take_of_length_le (by rw [hy.1]; exact hm)]

set_option maxHeartbeats 400000 in
theorem addWords_lt (p q : Option Addr) (n c m d : Nat) (xs ys : List Nat) (w : World) (hn : n ≤ 1000000000) (hm : m < n)
    (hx : Rd .u64 w p n xs) (hy : Rd .u64 w q m ys) (gx : Dg BW xs) (gy : Dg BW ys) :
    Calls Tryd.prog 83 #[.slice q m d, .slice p n c] w (Words w fun zs => dv BW zs = dv BW xs + dv BW ys) := by
  have hmk : ∀ w, (Instr.makeSlice 77 (.int .i64 ((n : Int) + 1)) (.int .i64 ((n : Int) + 1))).run Tryd.prog w = .ok (.slice (some ⟨w.heap.size, 0, none⟩) (n + 1) (n + 1)) (w.alloc (.cells (Go.madeCells #[.int .u64 0] (n + 1)) 73)) := fun w => mkWords (n + 1) (by omega) w
  have hbn : Below w.heap.size w (w.alloc (.cells (Go.madeCells #[.int .u64 0] (n + 1)) 73)) := (Below.refl _ w).alloc (Nat.le_refl _) _
  have hown0 := Own.new .u64 73 w (n + 1)
  have hlm : decide (m < n) = true := by simp; omega
  go_enter Tryd.func83, Tryd.ntmps83
  go_wp2
  go_loopw [6, 22] (fun c i wr => ∃ (k y : Nat) (zs : List Nat), k ≤ n ∧ y ≤ 1 ∧ c = .int .u64 y ∧ i = .int .i64 k ∧ Hid (zs.length = k ∧ Dg BW zs ∧ dv BW zs + BW ^ k * y = dv BW (xs.take k) + dv BW (ys.take k))
      ∧ Own .u64 73 wr w.heap.size (zs ++ List.replicate (n + 1 - k) 0) ∧ Below w.heap.size w wr) (fun _ i _ => n - (intOf i).toNat)
  case atStart => exact ⟨0, 0, [], Nat.zero_le _, Nat.zero_le _, rfl, rfl, ⟨rfl, Dg.nil _, by simp [dv]⟩, hown0, hbn⟩
  case round =>
    obtain ⟨k, y, zs, hk, hy1, rfl, rfl, hz, hown, hbel⟩ := hrel
    by_cases hlt : k < n
    · obtain ⟨b, off, rfl, hb, hcell⟩ := (hx.below hbel).2 k hlt
      by_cases hlm : k < m
      · obtain ⟨b', off', rfl, hb', hcell'⟩ := (hy.below hbel).2 k hlm
        have hcz := hown.cell k (by have := hz.out.1; simp; omega)
        have hfz := hown.frozen k
        have b1 : xs[k]?.getD 0 < 1000000000 := gx.get (by decide) k
        have b2 : ys[k]?.getD 0 < 1000000000 := gy.get (by decide) k
        go_wp2
        go_roundw
        case rel =>
          obtain ⟨z1, z2, z3⟩ := hz.out
          have e1 : ((y : Int) + (xs[k]?.getD 0 : Nat) + (ys[k]?.getD 0 : Nat)) / 1000000000 = (((y + xs[k]?.getD 0 + ys[k]?.getD 0) / 1000000000 : Nat) : Int) := by omega
          have e2 : ((y : Int) + (xs[k]?.getD 0 : Nat) + (ys[k]?.getD 0 : Nat)) % 1000000000 = (((y + xs[k]?.getD 0 + ys[k]?.getD 0) % 1000000000 : Nat) : Int) := by omega
          rw [e1, e2]
          have g := add_step (x := xs[k]?.getD 0) (y := ys[k]?.getD 0) z3 rfl
          refine ⟨k + 1, _, zs ++ [(y + xs[k]?.getD 0 + ys[k]?.getD 0) % 1000000000], by omega, by omega, rfl, by go_num, ⟨by simp [z1], z2.append (Dg.cons (Nat.mod_lt _ (by decide)) (Dg.nil _)), ?_⟩, ?_, ?_⟩
          · rw [dv_snoc, z1, dv_take_succ, dv_take_succ]; exact g
          · subst z1; exact hown.fill (by omega) _ rfl _
          · exact hbel.setCell (by simp) _
        case measure => simp [intOf]; omega
      · have hcz := hown.cell k (by have := hz.out.1; simp; omega)
        have hfz := hown.frozen k
        have b1 : xs[k]?.getD 0 < 1000000000 := gx.get (by decide) k
        go_wp2
        go_roundw
        case rel =>
          obtain ⟨z1, z2, z3⟩ := hz.out
          have e0 : ys[k]?.getD 0 = 0 := by rw [List.getElem?_eq_none (by have := hy.1; omega)]; rfl
          have e1 : ((y : Int) + (xs[k]?.getD 0 : Nat)) / 1000000000 = (((y + xs[k]?.getD 0) / 1000000000 : Nat) : Int) := by omega
          have e2 : ((y : Int) + (xs[k]?.getD 0 : Nat)) % 1000000000 = (((y + xs[k]?.getD 0) % 1000000000 : Nat) : Int) := by omega
          rw [e1, e2]
          have g := add_step (x := xs[k]?.getD 0) (y := ys[k]?.getD 0) z3 rfl
          rw [e0, Nat.add_zero] at g
          refine ⟨k + 1, _, zs ++ [(y + xs[k]?.getD 0) % 1000000000], by omega, by omega, rfl, by go_num, ⟨by simp [z1], z2.append (Dg.cons (Nat.mod_lt _ (by decide)) (Dg.nil _)), ?_⟩, ?_, ?_⟩
          · rw [dv_snoc, z1, dv_take_succ, dv_take_succ, e0]; exact g
          · subst z1; exact hown.fill (by omega) _ rfl _
          · exact hbel.setCell (by simp) _
        case measure => simp [intOf]; omega
    · obtain rfl : k = n := by omega
      have hz1 := hz.out.1
      have hcz := hown.cell k (by simp; omega)
      have hfz := hown.frozen k
      have hown2 : Own .u64 73 (wr.setCell ⟨w.heap.size, k, none⟩ (.int .u64 (y : Int))) w.heap.size (zs ++ [y]) := by
        have h := Own.fill (N := k + 1) (zs := zs) (by rw [hz1]; exact hown) (by omega) k hz1.symm y
        simpa using h
      go_wp2_with (go_at_call 80; refine (trimmed_any _ _ _ (zs ++ [y]) _ (by unfold maxLen; omega) (Nat.le_refl _) (hown2.rd (by simp [hz1]))).mono ?_; rintro e w' ⟨rfl, rfl⟩)
      go_ret
      obtain ⟨z1, z2, z3⟩ := hz.out
      have hl : (zs ++ [y]).length = k + 1 := by simp [z1]
      have gd : Dg BW (zs ++ [y]) := z2.append (Dg.cons (show y < 1000000000 by omega) (Dg.nil _))
      have g1 : trimLen (zs ++ [y]) (k + 1) ≤ k + 1 := trimLen_le _ _
      refine ⟨_, _, _, trimZ (zs ++ [y]), rfl, ?_, Nat.le_refl _, trimZ_cn gd, ?_, hbel.setCell (by simp) _⟩
      · unfold trimZ; rw [hl]; exact (hown2.rd hl).take _ g1
      · show dv BW (trimZ _) = _
        rw [dv_trimZ, dv_snoc, z1, z3, List.take_of_length_le (by rw [hx.1]; exact Nat.le_refl _), List.take_of_length_le (by rw [hy.1]; omega)]

theorem addWords_any (p q : Option Addr) (n c m d : Nat) (xs ys : List Nat) (w : World) (hn : n ≤ 1000000000) (hm : m ≤ 1000000000)
    (hx : Rd .u64 w p n xs) (hy : Rd .u64 w q m ys) (gx : Dg BW xs) (gy : Dg BW ys) :
    Calls Tryd.prog 83 #[.slice p n c, .slice q m d] w (Words w fun zs => dv BW zs = dv BW xs + dv BW ys) := by
  by_cases h : m ≤ n
  · exact addWords_ge p q n c m d xs ys w hn h hx hy gx gy
  · have g := addWords_lt q p m d n c ys xs w hm (by omega) hy hx gy gx
    rw [Nat.add_comm (dv BW xs)]; exact g

end Go.Proofs.YtapfkinpdinbgaaDoor
