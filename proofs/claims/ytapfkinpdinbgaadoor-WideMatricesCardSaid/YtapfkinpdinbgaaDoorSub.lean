/-
  The words of a number: differences.
-/
import Derived.Test.YtapfkinpdinbgaaDoorWords
namespace Go.Proofs.YtapfkinpdinbgaaDoor
open Go.RowKit

set_option maxHeartbeats 800000 in
theorem subtractWords_any (p q : Option Addr) (n c m d : Nat) (xs ys : List Nat) (w : World) (hn : n ≤ 1000000000) (hm : m ≤ n)
    (hx : Rd .u64 w p n xs) (hy : Rd .u64 w q m ys) (gx : Dg BW xs) (gy : Dg BW ys) (hle : dv BW ys ≤ dv BW xs) :
    Calls Tryd.prog 84 #[.slice p n c, .slice q m d] w (Words w fun zs => dv BW zs + dv BW ys = dv BW xs) := by
  have hmk : ∀ w, (Instr.makeSlice 77 (.int .i64 (n : Int)) (.int .i64 (n : Int))).run Tryd.prog w = .ok (.slice (some ⟨w.heap.size, 0, none⟩) n n) (w.alloc (.cells (Go.madeCells #[.int .u64 0] n) 73)) := fun w => mkWords n (by omega) w
  have hbn : Below w.heap.size w (w.alloc (.cells (Go.madeCells #[.int .u64 0] n) 73)) := (Below.refl _ w).alloc (Nat.le_refl _) _
  have hown0 := Own.new .u64 73 w n
  have HLE := Lib.hid hle
  clear hle
  go_enter Tryd.func84, Tryd.ntmps84
  go_wp2
  go_loopw [6, 15] (fun c i wr => ∃ (k y : Nat) (zs : List Nat), k ≤ n ∧ y ≤ 1 ∧ c = .int .u64 y ∧ i = .int .i64 k ∧ Hid (zs.length = k ∧ Dg BW zs ∧ dv BW zs + dv BW (ys.take k) = dv BW (xs.take k) + BW ^ k * y)
      ∧ Own .u64 73 wr w.heap.size (zs ++ List.replicate (n - k) 0) ∧ Below w.heap.size w wr) (fun _ i _ => n - (intOf i).toNat)
  case atStart => exact ⟨0, 0, [], Nat.zero_le _, Nat.zero_le _, rfl, rfl, ⟨rfl, Dg.nil _, by simp [dv]⟩, hown0, hbn⟩
  case round =>
    obtain ⟨k, y, zs, hk, hy1, rfl, rfl, hz, hown, hbel⟩ := hrel
    by_cases hlt : k < n
    · obtain ⟨b, off, rfl, hb, hcell⟩ := (hx.below hbel).2 k hlt
      by_cases hkm : k < m
      · obtain ⟨b', off', rfl, hb', hcell'⟩ := (hy.below hbel).2 k hkm
        have hcz := hown.cell k (by have := hz.out.1; simp; omega)
        have hfz := hown.frozen k
        have b1 : xs[k]?.getD 0 < 1000000000 := gx.get (by decide) k
        have b2 : ys[k]?.getD 0 < 1000000000 := gy.get (by decide) k
        by_cases hw : xs[k]?.getD 0 < y + ys[k]?.getD 0
        · go_wp2
          go_roundw
          case rel =>
            obtain ⟨z1, z2, z3⟩ := hz.out
            have e2 : ((xs[k]?.getD 0 : Nat) : Int) + 1000000000 - ((y : Int) + (ys[k]?.getD 0 : Nat)) = ((xs[k]?.getD 0 + 1000000000 - (y + ys[k]?.getD 0) : Nat) : Int) := by omega
            rw [e2]
            have g := sub_step (b := BW) (x := xs[k]?.getD 0) (y := ys[k]?.getD 0) (d := xs[k]?.getD 0 + 1000000000 - (y + ys[k]?.getD 0)) (br := 1) z3 (by show _ = _ + 1000000000 * _; omega)
            refine ⟨k + 1, 1, zs ++ [xs[k]?.getD 0 + 1000000000 - (y + ys[k]?.getD 0)], by omega, by omega, rfl, by go_num, ⟨by simp [z1], z2.append (Dg.cons (show _ < 1000000000 by omega) (Dg.nil _)), ?_⟩, ?_, ?_⟩
            · rw [dv_snoc, z1, dv_take_succ, dv_take_succ]; exact g
            · subst z1; exact hown.fill (by omega) _ rfl _
            · exact hbel.setCell (by simp) _
          case measure => simp [intOf]; omega
        · go_wp2
          go_roundw
          case rel =>
            obtain ⟨z1, z2, z3⟩ := hz.out
            have e2 : ((xs[k]?.getD 0 : Nat) : Int) - ((y : Int) + (ys[k]?.getD 0 : Nat)) = ((xs[k]?.getD 0 - (y + ys[k]?.getD 0) : Nat) : Int) := by omega
            rw [e2]
            have g := sub_step (b := BW) (x := xs[k]?.getD 0) (y := ys[k]?.getD 0) (d := xs[k]?.getD 0 - (y + ys[k]?.getD 0)) (br := 0) z3 (by show _ = _ + 1000000000 * _; omega)
            refine ⟨k + 1, 0, zs ++ [xs[k]?.getD 0 - (y + ys[k]?.getD 0)], by omega, by omega, rfl, by go_num, ⟨by simp [z1], z2.append (Dg.cons (show _ < 1000000000 by omega) (Dg.nil _)), ?_⟩, ?_, ?_⟩
            · rw [dv_snoc, z1, dv_take_succ, dv_take_succ]; exact g
            · subst z1; exact hown.fill (by omega) _ rfl _
            · exact hbel.setCell (by simp) _
          case measure => simp [intOf]; omega
      · have e0 : ys[k]?.getD 0 = 0 := by rw [List.getElem?_eq_none (by have := hy.1; omega)]; rfl
        have hcz := hown.cell k (by have := hz.out.1; simp; omega)
        have hfz := hown.frozen k
        have b1 : xs[k]?.getD 0 < 1000000000 := gx.get (by decide) k
        by_cases hw : xs[k]?.getD 0 < y
        · go_wp2
          go_roundw
          case rel =>
            obtain ⟨z1, z2, z3⟩ := hz.out
            have e2 : ((xs[k]?.getD 0 : Nat) : Int) + 1000000000 - ((y : Int)) = ((xs[k]?.getD 0 + 1000000000 - (y) : Nat) : Int) := by omega
            rw [e2]
            have g := sub_step (b := BW) (x := xs[k]?.getD 0) (y := ys[k]?.getD 0) (d := xs[k]?.getD 0 + 1000000000 - (y)) (br := 1) z3 (by show _ = _ + 1000000000 * _; rw [e0]; omega)
            refine ⟨k + 1, 1, zs ++ [xs[k]?.getD 0 + 1000000000 - (y)], by omega, by omega, rfl, by go_num, ⟨by simp [z1], z2.append (Dg.cons (show _ < 1000000000 by omega) (Dg.nil _)), ?_⟩, ?_, ?_⟩
            · rw [dv_snoc, z1, dv_take_succ, dv_take_succ]; exact g
            · subst z1; exact hown.fill (by omega) _ rfl _
            · exact hbel.setCell (by simp) _
          case measure => simp [intOf]; omega
        · go_wp2
          go_roundw
          case rel =>
            obtain ⟨z1, z2, z3⟩ := hz.out
            have e2 : ((xs[k]?.getD 0 : Nat) : Int) - ((y : Int)) = ((xs[k]?.getD 0 - (y) : Nat) : Int) := by omega
            rw [e2]
            have g := sub_step (b := BW) (x := xs[k]?.getD 0) (y := ys[k]?.getD 0) (d := xs[k]?.getD 0 - (y)) (br := 0) z3 (by show _ = _ + 1000000000 * _; rw [e0]; omega)
            refine ⟨k + 1, 0, zs ++ [xs[k]?.getD 0 - (y)], by omega, by omega, rfl, by go_num, ⟨by simp [z1], z2.append (Dg.cons (show _ < 1000000000 by omega) (Dg.nil _)), ?_⟩, ?_, ?_⟩
            · rw [dv_snoc, z1, dv_take_succ, dv_take_succ]; exact g
            · subst z1; exact hown.fill (by omega) _ rfl _
            · exact hbel.setCell (by simp) _
          case measure => simp [intOf]; omega
    · obtain rfl : k = n := by omega
      have hz1 := hz.out.1
      have hown2 : Own .u64 73 wr w.heap.size zs := by simpa using hown
      go_wp2_with (go_at_call 80; refine (trimmed_any _ _ _ zs _ (by unfold maxLen; omega) (Nat.le_refl _) (hown2.rd hz1)).mono ?_; rintro e w' ⟨rfl, rfl⟩)
      go_ret
      obtain ⟨z1, z2, z3⟩ := hz.out
      have g1 : trimLen zs k ≤ k := trimLen_le _ _
      refine ⟨_, _, _, trimZ zs, rfl, ?_, Nat.le_refl _, trimZ_cn z2, ?_, hbel⟩
      · unfold trimZ; rw [z1]; exact (hown2.rd z1).take _ g1
      · show dv BW (trimZ _) + _ = _
        rw [List.take_of_length_le (by rw [hy.1]; exact hm), List.take_of_length_le (by rw [hx.1]; exact Nat.le_refl _)] at z3
        rw [dv_trimZ]
        exact sub_end z3 (by rw [← z1]; exact dv_lt z2) hy1 HLE.out
end Go.Proofs.YtapfkinpdinbgaaDoor
