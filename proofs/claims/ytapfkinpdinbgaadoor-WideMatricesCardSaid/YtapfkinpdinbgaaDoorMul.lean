/-
  The words of a number: products.
-/
import Derived.Test.YtapfkinpdinbgaaDoorWords
namespace Go.Proofs.YtapfkinpdinbgaaDoor
open Go.RowKit

/-- What the outer loop has done: i words of x. -/
def MulOut (xs ys zs : List Nat) (i : Nat) : Prop :=
  zs.length = xs.length + ys.length ∧ Dg BW zs ∧ dv BW zs = dv BW (xs.take i) * dv BW ys ∧ ∀ t, i + ys.length ≤ t → zs[t]?.getD 0 = 0

/-- What the inner loop has done: word i of x, j words of y. -/
def MulIn (xs ys z0 zs : List Nat) (i j c : Nat) : Prop :=
  zs.length = xs.length + ys.length ∧ Dg BW zs ∧ c < BW ∧ dv BW zs + BW ^ (i + j) * c = dv BW z0 + BW ^ i * (xs[i]?.getD 0 * dv BW (ys.take j)) ∧ ∀ t, i + ys.length ≤ t → zs[t]?.getD 0 = 0

theorem MulIn.start {xs ys zs : List Nat} {i : Nat} (h : MulOut xs ys zs i) : MulIn xs ys zs zs i 0 0 :=
  ⟨h.1, h.2.1, by decide, by simp [dv], h.2.2.2⟩

theorem MulIn.step {xs ys z0 zs : List Nat} {i j c : Nat} (h : MulIn xs ys z0 zs i j c) (hi : i < xs.length) (hj : j < ys.length) (gx : Dg BW xs) (gy : Dg BW ys) :
    MulIn xs ys z0 (zs.set (i + j) ((c + (xs[i]?.getD 0 * ys[j]?.getD 0 + zs[i + j]?.getD 0)) % BW)) i (j + 1) ((c + (xs[i]?.getD 0 * ys[j]?.getD 0 + zs[i + j]?.getD 0)) / BW) := by
  obtain ⟨h1, h2, h3, h4, h5⟩ := h
  refine ⟨by simp [h1], h2.set _ (Nat.mod_lt _ (by decide)), ?_, ?_, ?_⟩
  · rw [Nat.div_lt_iff_lt_mul (by decide)]
    exact mul_fits (by decide) h3 (gx.get (by decide) i) (gy.get (by decide) j) (h2.get (by decide) (i + j))
  · have g := mul_place (b := BW) (zs := zs) (at_ := i + j) (x := xs[i]?.getD 0) (w := ys[j]?.getD 0) (c := c) (by omega) rfl
    rw [← Nat.add_assoc i j 1, g, h4, dv_take_succ, Nat.mul_add, Nat.mul_add, Nat.pow_add]
    grind
  · intro t ht
    rw [set_get_other _ _ _ _ (by omega)]; exact h5 t ht

theorem MulIn.finish {xs ys z0 zs : List Nat} {i c : Nat} (h : MulIn xs ys z0 zs i ys.length c) (h0 : MulOut xs ys z0 i) (hi : i < xs.length) : MulOut xs ys (zs.set (i + ys.length) c) (i + 1) := by
  obtain ⟨h1, h2, h3, h4, h5⟩ := h
  refine ⟨by simp [h1], h2.set _ h3, ?_, ?_⟩
  · have g := dv_set BW zs (i + ys.length) c (by omega)
    rw [h5 _ (Nat.le_refl _), Nat.mul_zero, Nat.add_zero] at g
    rw [g, h4, dv_take_succ, List.take_of_length_le (Nat.le_refl _), h0.2.2.1, Nat.add_mul, Nat.mul_assoc]
  · intro t ht
    rw [set_get_other _ _ _ _ (by omega)]; exact h5 t (by omega)

theorem MulIn.small {xs ys z0 zs : List Nat} {i j c : Nat} (h : MulIn xs ys z0 zs i j c) : c < 1000000000 := h.2.2.1

set_option maxHeartbeats 1600000 in
theorem multiplyWords_any (p q : Option Addr) (n c m d : Nat) (xs ys : List Nat) (w : World) (hn : n ≤ 1000000000) (hm : m ≤ 1000000000)
    (hx : Rd .u64 w p n xs) (hy : Rd .u64 w q m ys) (gx : Dg BW xs) (gy : Dg BW ys) :
    Calls Tryd.prog 75 #[.slice p n c, .slice q m d] w (Words w fun zs => dv BW zs = dv BW xs * dv BW ys) := by
  have hmk : ∀ w, (Instr.makeSlice 77 (.int .i64 ((n : Int) + (m : Int))) (.int .i64 ((n : Int) + (m : Int)))).run Tryd.prog w = .ok (.slice (some ⟨w.heap.size, 0, none⟩) (n + m) (n + m)) (w.alloc (.cells (Go.madeCells #[.int .u64 0] (n + m)) 73)) := fun w => mkWords (n + m) (by omega) w
  have hbn : Below w.heap.size w (w.alloc (.cells (Go.madeCells #[.int .u64 0] (n + m)) 73)) := (Below.refl _ w).alloc (Nat.le_refl _) _
  have hown0 := Own.new .u64 73 w (n + m)
  go_enter Tryd.func75, Tryd.ntmps75
  go_wp2
  go_loopw [19] (fun i wr => ∃ (k : Nat) (zs : List Nat), k ≤ n ∧ i = .int .i64 k ∧ MulOut xs ys zs k ∧ Own .u64 73 wr w.heap.size zs ∧ Below w.heap.size w wr) (fun i _ => n - (intOf i).toNat)
  case atStart => exact ⟨0, _, Nat.zero_le _, rfl, ⟨by simp [hx.1, hy.1], Dg.replicate (by decide) _, by rw [dv_replicate]; simp [dv], fun t _ => by rw [List.getElem?_replicate]; split <;> rfl⟩, hown0, hbn⟩
  case round =>
    obtain ⟨k, z0, hk, rfl, hout, hown, hbel⟩ := hrel
    by_cases hlt : k < n
    · obtain ⟨b, off, rfl, hb, hcell⟩ := (hx.below hbel).2 k hlt
      obtain ⟨wo, rfl⟩ : ∃ wo : World, wo = wr := ⟨_, rfl⟩
      obtain ⟨a, ha⟩ : ∃ a, xs[k]?.getD 0 = a := ⟨_, rfl⟩
      have a1 : a < 1000000000 := by rw [← ha]; exact gx.get (by decide) k
      rw [ha] at hcell
      have HA := Lib.hid ha
      clear ha
      go_wp2
      go_loopw [8, 26] (fun c j wr => ∃ (t y : Nat) (zs : List Nat), t ≤ m ∧ c = .int .u64 y ∧ j = .int .i64 t ∧ MulIn xs ys z0 zs k t y ∧ Own .u64 73 wr w.heap.size zs ∧ Below w.heap.size w wr) (fun _ j _ => m - (intOf j).toNat)
      case atStart => exact ⟨0, 0, z0, Nat.zero_le _, rfl, rfl, MulIn.start hout, hown, hbel⟩
      case round =>
        obtain ⟨t, y, zs, ht, rfl, rfl, hin, hown1, hbel1⟩ := hrel
        have b3 := hin.small
        have HX := Lib.hid hx.1
        have HY := Lib.hid hy.1
        by_cases htm : t < m
        · obtain ⟨b', off', rfl, hb', hcell'⟩ := (hy.below hbel1).2 t htm
          have hcz := hown1.cell (k + t) (by rw [hin.1, HX.out, HY.out]; omega)
          have hfz := hown1.frozen (k + t)
          have hst := hin.step (by rw [HX.out]; exact hlt) (by rw [HY.out]; exact htm) gx gy
          have hset := hown1.set (k + t) ((y + (xs[k]?.getD 0 * ys[t]?.getD 0 + zs[k + t]?.getD 0)) % BW)
          obtain ⟨u, hu⟩ : ∃ u, ys[t]?.getD 0 = u := ⟨_, rfl⟩
          obtain ⟨z, hz⟩ : ∃ z, zs[k + t]?.getD 0 = z := ⟨_, rfl⟩
          have u1 : u < 1000000000 := by rw [← hu]; exact gy.get (by decide) t
          have z1 : z < 1000000000 := by rw [← hz]; exact hin.2.1.get (by decide) (k + t)
          obtain ⟨p1, p2⟩ := prod_bound a1 u1
          rw [hu] at hcell'
          rw [hz] at hcz
          rw [HA.out, hu, hz] at hst hset
          clear hu hz
          go_wp2
          go_roundw
          case rel =>
            have e1 : ((y : Int) + ((a : Int) * (u : Int) + (z : Int))) / 1000000000 = (((y + (a * u + z)) / BW : Nat) : Int) := by
              rw [Int.natCast_ediv]; simp
            have e2 : ((y : Int) + ((a : Int) * (u : Int) + (z : Int))) % 1000000000 = (((y + (a * u + z)) % BW : Nat) : Int) := by
              rw [Int.natCast_emod]; simp
            rw [e1, e2]
            exact ⟨t + 1, _, _, by omega, rfl, by go_num, hst, hset, hbel1.setCell (by simp) _⟩
          case measure => simp [intOf]; omega
        · obtain rfl : t = m := by omega
          have hcz := hown1.cell (k + t) (by rw [hin.1, HX.out, HY.out]; omega)
          have hfz := hown1.frozen (k + t)
          have hset := hown1.set (k + t) y
          have hfin := (show MulIn xs ys z0 zs k ys.length y by rw [HY.out]; exact hin).finish hout (by rw [HX.out]; exact hlt)
          rw [HY.out] at hfin
          go_wp2
          go_roundw
          case rel => exact ⟨k + 1, _, by omega, by go_num, hfin, hset, hbel1.setCell (by simp) _⟩
          case measure => simp [intOf]; omega
    · obtain rfl : k = n := by omega
      have z1 := hout.1
      have hl : z0.length = k + m := by rw [z1, hx.1, hy.1]
      have z2 := hout.2.1
      have z3 := hout.2.2.1
      have H1 := Lib.hid (And.intro hl z3)
      clear z1 hl z3
      go_wp2_with (go_at_call 80; refine (trimmed_any _ _ _ z0 _ (by unfold maxLen; omega) (Nat.le_refl _) (hown.rd H1.out.1)).mono ?_; rintro e w' ⟨rfl, rfl⟩)
      go_ret
      have hl := H1.out.1
      have g1 : trimLen z0 (k + m) ≤ k + m := trimLen_le _ _
      refine ⟨_, _, _, trimZ z0, rfl, ?_, Nat.le_refl _, trimZ_cn z2, ?_, hbel⟩
      · unfold trimZ; rw [hl]; exact (hown.rd hl).take _ g1
      · show dv BW (trimZ _) = _
        rw [dv_trimZ, H1.out.2, List.take_of_length_le (by rw [hx.1]; exact Nat.le_refl _)]
end Go.Proofs.YtapfkinpdinbgaaDoor
