/-
  Which of two numbers' words say more; The words of a number: differences; The words of a number: products; What a value that is a number says; sums, products, opposites.
-/
import Derived.Test.YtimcbmgmngkagaaGreatDoorK1
namespace Go.Proofs.YtimcbmgmngkagaaGreatDoor
open Go.RowKit Go.Shelf
attribute [local go_sem] Oper.semAt_some

theorem mem_upto {len k j : Nat} (h : j < k) : dnAt len j ∈ upto (dnAt len) k := by
  unfold upto; exact List.mem_map.2 ⟨j, List.mem_range.2 h, rfl⟩

/-- Places above are alike. -/
theorem drop_alike {n k : Nat} {xs ys : List Nat} (hx : xs.length = n) (hy : ys.length = n) (hk : k < n) (h : ∀ j ∈ upto (dnAt n) k, xs[j.1]?.getD 0 = ys[j.1]?.getD 0) :
    xs.drop (n - 1 - k + 1) = ys.drop (n - 1 - k + 1) := by
  apply List.ext_getElem
  · simp [hx, hy]
  · intro i h1 h2
    simp at h1 h2
    have hm := h (dnAt n (n - 1 - (n - 1 - k + 1 + i))) (mem_upto (by omega))
    have e : n - 1 - (n - 1 - (n - 1 - k + 1 + i)) = n - 1 - k + 1 + i := by omega
    simp only [dnAt, e] at hm
    rw [List.getElem?_eq_getElem (by omega), List.getElem?_eq_getElem (by omega)] at hm
    simpa using hm

theorem cmp_at {n k : Nat} {xs ys : List Nat} (gx : Dg BW xs) (gy : Dg BW ys) (hx : xs.length = n) (hy : ys.length = n) (hk : k < n) (h : ∀ j ∈ upto (dnAt n) k, xs[j.1]?.getD 0 = ys[j.1]?.getD 0)
    (hne : xs[(dnAt n k).1]?.getD 0 ≠ ys[(dnAt n k).1]?.getD 0) : sgnCmp (xs[(dnAt n k).1]?.getD 0 : Nat) (ys[(dnAt n k).1]?.getD 0 : Nat) = sgnCmp (dv BW xs) (dv BW ys) := by
  have hd := drop_alike hx hy hk h
  simp only [dnAt] at hne ⊢
  rcases Nat.lt_or_gt_of_ne hne with h1 | h1
  · have := dv_lt_at gx (hx.trans hy.symm) (n - 1 - k) (by omega) hd h1
    rw [sgnCmp_lt (by omega), sgnCmp_lt (by omega)]
  · have := dv_lt_at gy (hy.trans hx.symm) (n - 1 - k) (by omega) hd.symm h1
    rw [sgnCmp_gt (by omega), sgnCmp_gt (by omega)]

theorem cmp_none {n : Nat} {xs ys : List Nat} (hx : xs.length = n) (hy : ys.length = n) (h : ∀ j ∈ upto (dnAt n) n, xs[j.1]?.getD 0 = ys[j.1]?.getD 0) : xs = ys := by
  apply List.ext_getElem
  · simp [hx, hy]
  · intro i h1 h2
    have hm := h (dnAt n (n - 1 - i)) (mem_upto (by omega))
    have e : n - 1 - (n - 1 - i) = i := by omega
    simp only [dnAt, e] at hm
    rw [List.getElem?_eq_getElem h1, List.getElem?_eq_getElem h2] at hm
    simpa using hm

theorem upto_snoc {α : Type} {f : Nat → α} {k : Nat} {pre : List α} {x : α} (h : upto f k = pre ++ [x]) : ∃ j, k = j + 1 ∧ pre = upto f j ∧ x = f j := by
  cases k with
  | zero => simp [upto] at h
  | succ j =>
    rw [upto_succ] at h
    have := List.append_inj' h rfl
    exact ⟨j, rfl, this.1.symm, by simpa using this.2.symm⟩

set_option maxRecDepth 100000 in
set_option maxHeartbeats 2000000 in
theorem compareWords_any (p q : Option Addr) (n c m d : Nat) (xs ys : List Nat) (w : World) (hn : n ≤ 1000000000) (hm : m ≤ 1000000000)
    (hx : Rd .u64 w p n xs) (hy : Rd .u64 w q m ys) (gx : Cn BW xs) (gy : Cn BW ys) :
    Calls Tryz.prog 114 #[.slice p n c, .slice q m d] w fun e w' => e = .returned (.int .i64 (sgnCmp (dv BW xs) (dv BW ys))) ∧ Below w.heap.size w w' := by
  refine (callsIn_wide (n := 6)).1 ?_
  refine callsIn_of_wp_marks Tryz.func114 rfl trivial ?_ rfl
  simp only [Tryz.ntmps114, List.size_toArray, List.length_cons, List.length_nil, Nat.reduceAdd, Nat.reduceSub, Array.replicate_succ, Array.replicate_zero, List.push_toArray, List.append_toArray, List.nil_append, List.cons_append]
  by_cases hlen : n = m
  · subst hlen
    have hB0 : Below w.heap.size w (((w.alloc (.cells #[.slice q n d] 76)).alloc (.cells #[.int .i64 0] 3)).alloc (.cells #[.slice p n c] 76)) := (((Below.refl _ w).alloc (Nat.le_refl _) _).alloc (by simp) _).alloc (by simp; omega) _
    gi_wp2_with (refine ⟨trivial, ?_⟩; gi_at_call 112; refine (down_in Fence.wide _ trivial rfl _ _ _ _).mono ?_; rintro e w' ⟨rfl, rfl⟩)
    have c0 := Boxed.new w 76 (.slice q n d)
    have c1 := Boxed.new (w.alloc (.cells #[.slice q n d] 76)) 3 (.int .i64 0)
    have c2 := Boxed.new ((w.alloc (.cells #[.slice q n d] 76)).alloc (.cells #[.int .i64 0] 3)) 76 (.slice p n c)
    simp only [World.size_alloc] at c1 c2
    refine wpIn_rangeFunc_ownF rfl (by omega) (gf := 150) (lb := #[.pointer (some ⟨w.heap.size + 1 + 1, 0, none⟩)]) rfl trivial (enters_of Tryz.func150 (by kernel_rfl) rfl)
      (down_stops Fence.wide 5 trivial rfl (by omega) (w.heap.size + 1 + 1) n c (fun b => b < w.heap.size ∨ b = w.heap.size + 1 + 1) p xs hn _ (fun b hb => by simp; omega) c2.cell (Or.inr rfl) hx.1
        (fun i hi => by obtain ⟨b, off, hp, hb, hcl⟩ := hx.2 i hi; exact ⟨b, off, hp, Or.inl hb, (hB0.cell (p := ⟨b, off + i, none⟩) hb).trans hcl⟩))
      KeepsAt.trans (KeepsAt.putObj (fun b hb => by simp; omega)) (Below.refl _ _) (fun _ => rfl)
      (fun pre W => (Hid (∀ j ∈ pre, xs[j.1]?.getD 0 = ys[j.1]?.getD 0) ∧ W.cell? ⟨w.heap.size, 0, none⟩ = some (.slice q n d) ∧ W.cell? ⟨w.heap.size + 1, 0, none⟩ = some (.int .i64 0) ∧ W.frozen? ⟨w.heap.size + 1, 0, none⟩ = false) ∧ Below w.heap.size w W)
      (fun c pre W => (c = .ret ∧ Hid (∃ pre' x, pre = pre' ++ [x] ∧ (∀ j ∈ pre', xs[j.1]?.getD 0 = ys[j.1]?.getD 0) ∧ xs[x.1]?.getD 0 ≠ ys[x.1]?.getD 0 ∧ W.cell? ⟨w.heap.size + 1, 0, none⟩ = some (.int .i64 (sgnCmp (xs[x.1]?.getD 0 : Nat) (ys[x.1]?.getD 0 : Nat))))) ∧ Below w.heap.size w W)
      (OwnFrom.and (Own.from (fun s A B row hs hg hr => ⟨hs.1, cell_kept hs.2.1 hg hr, cell_kept hs.2.2.1 hg hr, (frozen_kept hs.2.2.1 hg hr).trans hs.2.2.2⟩) _) (ownFrom_below (Nat.le_refl _) (by simp; omega)))
      (fun c => OwnFrom.and (Own.from (fun s A B row hs hg hr => ⟨hs.1, (by obtain ⟨pre', x, e1, e2, e3, e4⟩ := hs.2; exact ⟨pre', x, e1, e2, e3, cell_kept e4 hg hr⟩)⟩) _) (ownFrom_below (Nat.le_refl _) (by simp; omega)))
      ⟨⟨(fun j hj => by cases hj), ((c0.alloc _).alloc _).cell, (c1.alloc _).cell, (c1.alloc _).frozen⟩, hB0⟩
      (fun x => { tmps := #[.slice p n c, .slice q n d, undef, .pointer (some ⟨w.heap.size, 0, none⟩), .pointer (some ⟨w.heap.size + 1, 0, none⟩), .int .i64 (x.1 : Int), .int .u64 ((xs[x.1]?.getD 0 : Nat) : Int), .slice p n c,
          .int .i64 (n : Int), .slice q n d, .int .i64 (n : Int), .bool false, undef, undef, undef, undef, undef, .slice p n c,
          .func (.func 150) #[] #[.pointer (some ⟨w.heap.size + 1 + 1, 0, none⟩)], .int .i64 (x.1 : Int), .int .u64 ((xs[x.1]?.getD 0 : Nat) : Int),
          undef, undef, undef, undef, undef, undef, undef, undef, undef, undef, undef, undef], defers := [] }) ?assign ?body ?done ?stop
    case assign =>
      intro l x W K hK
      unfold encDn
      gi_wp2
      exact hK
    case body =>
      rintro l pre ⟨i, hi⟩ W ⟨⟨hp, hcy, hcr, hfr⟩, hB⟩ hlt
      have hin : i < n := hi (by omega)
      obtain ⟨b', off', rfl, hb', hcell'⟩ := (hy.below hB).2 i hin
      dsimp only
      by_cases hxy : xs[i]?.getD 0 = ys[i]?.getD 0
      · have HH := Lib.hid hxy
        rw [← hxy] at hcell'
        clear hxy
        gi_wp2
        exact ⟨KeepsOthers.refl _, KeepsAt.refl _ _, ⟨(fun j hj => (List.mem_append.1 hj).elim (hp.out j) (fun e => by simp at e; subst e; exact HH.out)), hcy, hcr, hfr⟩, hB⟩
      · have hne : (((xs[i]?.getD 0 : Nat) : Int) != ((ys[i]?.getD 0 : Nat) : Int)) = true := by simp; omega
        have HH := Lib.hid hxy
        clear hxy
        gi_wp2_with (refine ⟨trivial, ?_⟩; gi_at_call 153; refine (CallsIn.inRound l (callsIn_wide.2 (cmp_uint64 _ _ _))).mono ?_; rintro e w' ⟨rfl, rfl⟩)
        exact ⟨KeepsOthers.setCell _ _ _, ⟨rfl, ⟨pre, ⟨i, hi⟩, rfl, hp.out, HH.out, World.cell?_setCell_same' _ _ _ (by rw [hcr]; rfl)⟩⟩, hB.setCell (p := ⟨w.heap.size + 1, 0, none⟩) (by simp) _⟩
    case done =>
      rintro D zs W hD rfl ⟨⟨hp, hcy, hcr, hfr⟩, hB⟩ hK
      obtain rfl : xs = ys := cmp_none hx.1 hy.1 hp.out
      gi_wp2
      have hK' := (KeepsOthers.setCell W ⟨w.heap.size + 1, 0, none⟩ (.int .i64 0)).same D _ hK rfl
      refine ⟨by simp, .inl ⟨_, _, rfl, run_takeDeferred hK', ?_⟩⟩
      have hc5 := cell_kept (World.cell?_setCell_same' W ⟨w.heap.size + 1, 0, none⟩ (.int .i64 0) (by rw [hcr]; rfl)) (grownBy_putObj' _ D (.deferred none)) (fun r e => by cases e; exact ⟨_, hK', rfl⟩)
      refine ⟨.int .i64 0, ?_, by rw [sgnCmp_eq], (hB.setCell (p := ⟨w.heap.size + 1, 0, none⟩) (by simp) _).trans (belowK_b (w := w) (Nat.le_refl _) _ D _ _ (by simp at hD; omega) hK' rfl rfl)⟩
      simp [results, Tryz.f114, go_sem, hc5]
    case stop =>
      rintro D c pre W hD ⟨k, hk, rfl⟩ ⟨⟨rfl, hs⟩, hB⟩ hK
      obtain ⟨pre', x, e1, e2, e3, e4⟩ := hs.out
      obtain ⟨j, rfl, rfl, rfl⟩ := upto_snoc e1
      rw [cmp_at gx.1 gy.1 hx.1 hy.1 (by omega) e2 e3] at e4
      clear hs e1 e2 e3
      gi_wp2
      refine ⟨by simp, .inl ⟨_, _, rfl, run_takeDeferred hK, ?_⟩⟩
      have hc5 := cell_kept e4 (grownBy_putObj' _ D (.deferred none)) (fun r e => by cases e; exact ⟨_, hK, rfl⟩)
      refine ⟨.int .i64 (sgnCmp (dv BW xs) (dv BW ys)), ?_, rfl, hB.trans (belowK_b (w := w) (Nat.le_refl _) W D _ _ (by simp at hD; omega) hK rfl rfl)⟩
      simp [results, Tryz.f114, go_sem, hc5]
  · have hne : ((n : Int) != (m : Int)) = true := by simp; omega
    have hfin : sgnCmp (n : Int) (m : Int) = sgnCmp (dv BW xs) (dv BW ys) := by
      rcases Nat.lt_or_gt_of_ne hlen with h | h
      · have := Cn.lt_of_length (b := BW) (by decide) gx.1 gy (by rw [hx.1, hy.1]; exact h)
        rw [sgnCmp_lt (by omega), sgnCmp_lt (by omega)]
      · have := Cn.lt_of_length (b := BW) (by decide) gy.1 gx (by rw [hx.1, hy.1]; exact h)
        rw [sgnCmp_gt (by omega), sgnCmp_gt (by omega)]
    have HF := Lib.hid hfin
    clear hfin hlen
    gi_wp2_with (refine ⟨trivial, ?_⟩; gi_at_call 152; refine (callsIn_wide.2 (cmp_int _ _ _)).mono ?_; rintro e w' ⟨rfl, rfl⟩)
    refine ⟨.int .i64 (sgnCmp (n : Int) (m : Int)), ?_, by rw [HF.out], ((Below.refl _ w).alloc (Nat.le_refl _) _).alloc (by simp) _⟩
    simp [results, Tryz.f114, go_sem]
end Go.Proofs.YtimcbmgmngkagaaGreatDoor

namespace Go.Proofs.YtimcbmgmngkagaaGreatDoor
open Go.RowKit

set_option maxHeartbeats 800000 in
theorem subtractWords_any (p q : Option Addr) (n c m d : Nat) (xs ys : List Nat) (w : World) (hn : n ≤ 1000000000) (hm : m ≤ n)
    (hx : Rd .u64 w p n xs) (hy : Rd .u64 w q m ys) (gx : Dg BW xs) (gy : Dg BW ys) (hle : dv BW ys ≤ dv BW xs) :
    Calls Tryz.prog 109 #[.slice p n c, .slice q m d] w (Words w fun zs => dv BW zs + dv BW ys = dv BW xs) := by
  have hmk : ∀ w, (Instr.makeSlice 76 (.int .i64 (n : Int)) (.int .i64 (n : Int))).run Tryz.prog w = .ok (.slice (some ⟨w.heap.size, 0, none⟩) n n) (w.alloc (.cells (Go.madeCells #[.int .u64 0] n) 117)) := fun w => mkWords n (by omega) w
  have hbn : Below w.heap.size w (w.alloc (.cells (Go.madeCells #[.int .u64 0] n) 117)) := (Below.refl _ w).alloc (Nat.le_refl _) _
  have hown0 := Own.new .u64 117 w n
  have HLE := Lib.hid hle
  clear hle
  go_enter Tryz.func109, Tryz.ntmps109
  go_wp2
  go_loopw [6, 15] (fun c i wr => ∃ (k y : Nat) (zs : List Nat), k ≤ n ∧ y ≤ 1 ∧ c = .int .u64 y ∧ i = .int .i64 k ∧ Hid (zs.length = k ∧ Dg BW zs ∧ dv BW zs + dv BW (ys.take k) = dv BW (xs.take k) + BW ^ k * y)
      ∧ Own .u64 117 wr w.heap.size (zs ++ List.replicate (n - k) 0) ∧ Below w.heap.size w wr) (fun _ i _ => n - (intOf i).toNat)
  case atStart => exact ⟨0, 0, [], Nat.zero_le _, Nat.zero_le _, rfl, rfl, ⟨rfl, Dg.nil _, by simp [dv]⟩, hown0, hbn⟩
  case round =>
    obtain ⟨k, y, zs, hk, hy1, rfl, rfl, hz, hown, hbel⟩ := hrel
    by_cases hlt : k < n
    · obtain ⟨b, off, rfl, hb, hcell⟩ := (hx.below hbel).2 k hlt
      by_cases hkm : k < m
      · obtain ⟨b', off', rfl, hb', hcell'⟩ := (hy.below hbel).2 k hkm
        have hcz := hown.cell k (by have := hz.out.1; simp; omega)
        have hfz := hown.frozen k
        have b1 : xs[k]?.getD 0 < 1000000000 := gx.get (by decide) k
        have b2 : ys[k]?.getD 0 < 1000000000 := gy.get (by decide) k
        by_cases hw : xs[k]?.getD 0 < y + ys[k]?.getD 0
        · go_wp2
          go_roundw
          case rel =>
            obtain ⟨z1, z2, z3⟩ := hz.out
            have e2 : ((xs[k]?.getD 0 : Nat) : Int) + 1000000000 - ((y : Int) + (ys[k]?.getD 0 : Nat)) = ((xs[k]?.getD 0 + 1000000000 - (y + ys[k]?.getD 0) : Nat) : Int) := by omega
            rw [e2]
            have g := sub_step (b := BW) (x := xs[k]?.getD 0) (y := ys[k]?.getD 0) (d := xs[k]?.getD 0 + 1000000000 - (y + ys[k]?.getD 0)) (br := 1) z3 (by show _ = _ + 1000000000 * _; omega)
            refine ⟨k + 1, 1, zs ++ [xs[k]?.getD 0 + 1000000000 - (y + ys[k]?.getD 0)], by omega, by omega, rfl, by go_num, ⟨by simp [z1], z2.append (Dg.cons (show _ < 1000000000 by omega) (Dg.nil _)), ?_⟩, ?_, ?_⟩
            · rw [dv_snoc, z1, dv_take_succ, dv_take_succ]; exact g
            · subst z1; exact hown.fill (by omega) _ rfl _
            · exact hbel.setCell (by simp) _
          case measure => simp [intOf]; omega
        · go_wp2
          go_roundw
          case rel =>
            obtain ⟨z1, z2, z3⟩ := hz.out
            have e2 : ((xs[k]?.getD 0 : Nat) : Int) - ((y : Int) + (ys[k]?.getD 0 : Nat)) = ((xs[k]?.getD 0 - (y + ys[k]?.getD 0) : Nat) : Int) := by omega
            rw [e2]
            have g := sub_step (b := BW) (x := xs[k]?.getD 0) (y := ys[k]?.getD 0) (d := xs[k]?.getD 0 - (y + ys[k]?.getD 0)) (br := 0) z3 (by show _ = _ + 1000000000 * _; omega)
            refine ⟨k + 1, 0, zs ++ [xs[k]?.getD 0 - (y + ys[k]?.getD 0)], by omega, by omega, rfl, by go_num, ⟨by simp [z1], z2.append (Dg.cons (show _ < 1000000000 by omega) (Dg.nil _)), ?_⟩, ?_, ?_⟩
            · rw [dv_snoc, z1, dv_take_succ, dv_take_succ]; exact g
            · subst z1; exact hown.fill (by omega) _ rfl _
            · exact hbel.setCell (by simp) _
          case measure => simp [intOf]; omega
      · have e0 : ys[k]?.getD 0 = 0 := by rw [List.getElem?_eq_none (by have := hy.1; omega)]; rfl
        have hcz := hown.cell k (by have := hz.out.1; simp; omega)
        have hfz := hown.frozen k
        have b1 : xs[k]?.getD 0 < 1000000000 := gx.get (by decide) k
        by_cases hw : xs[k]?.getD 0 < y
        · go_wp2
          go_roundw
          case rel =>
            obtain ⟨z1, z2, z3⟩ := hz.out
            have e2 : ((xs[k]?.getD 0 : Nat) : Int) + 1000000000 - ((y : Int)) = ((xs[k]?.getD 0 + 1000000000 - (y) : Nat) : Int) := by omega
            rw [e2]
            have g := sub_step (b := BW) (x := xs[k]?.getD 0) (y := ys[k]?.getD 0) (d := xs[k]?.getD 0 + 1000000000 - (y)) (br := 1) z3 (by show _ = _ + 1000000000 * _; rw [e0]; omega)
            refine ⟨k + 1, 1, zs ++ [xs[k]?.getD 0 + 1000000000 - (y)], by omega, by omega, rfl, by go_num, ⟨by simp [z1], z2.append (Dg.cons (show _ < 1000000000 by omega) (Dg.nil _)), ?_⟩, ?_, ?_⟩
            · rw [dv_snoc, z1, dv_take_succ, dv_take_succ]; exact g
            · subst z1; exact hown.fill (by omega) _ rfl _
            · exact hbel.setCell (by simp) _
          case measure => simp [intOf]; omega
        · go_wp2
          go_roundw
          case rel =>
            obtain ⟨z1, z2, z3⟩ := hz.out
            have e2 : ((xs[k]?.getD 0 : Nat) : Int) - ((y : Int)) = ((xs[k]?.getD 0 - (y) : Nat) : Int) := by omega
            rw [e2]
            have g := sub_step (b := BW) (x := xs[k]?.getD 0) (y := ys[k]?.getD 0) (d := xs[k]?.getD 0 - (y)) (br := 0) z3 (by show _ = _ + 1000000000 * _; rw [e0]; omega)
            refine ⟨k + 1, 0, zs ++ [xs[k]?.getD 0 - (y)], by omega, by omega, rfl, by go_num, ⟨by simp [z1], z2.append (Dg.cons (show _ < 1000000000 by omega) (Dg.nil _)), ?_⟩, ?_, ?_⟩
            · rw [dv_snoc, z1, dv_take_succ, dv_take_succ]; exact g
            · subst z1; exact hown.fill (by omega) _ rfl _
            · exact hbel.setCell (by simp) _
          case measure => simp [intOf]; omega
    · obtain rfl : k = n := by omega
      have hz1 := hz.out.1
      have hown2 : Own .u64 117 wr w.heap.size zs := by simpa using hown
      go_wp2_with (go_at_call 147; refine (trimmed_any _ _ _ zs _ (by unfold maxLen; omega) (Nat.le_refl _) (hown2.rd hz1)).mono ?_; rintro e w' ⟨rfl, rfl⟩)
      go_ret
      obtain ⟨z1, z2, z3⟩ := hz.out
      have g1 : trimLen zs k ≤ k := trimLen_le _ _
      refine ⟨_, _, _, trimZ zs, rfl, ?_, Nat.le_refl _, trimZ_cn z2, ?_, hbel⟩
      · unfold trimZ; rw [z1]; exact (hown2.rd z1).take _ g1
      · show dv BW (trimZ _) + _ = _
        rw [List.take_of_length_le (by rw [hy.1]; exact hm), List.take_of_length_le (by rw [hx.1]; exact Nat.le_refl _)] at z3
        rw [dv_trimZ]
        exact sub_end z3 (by rw [← z1]; exact dv_lt z2) hy1 HLE.out
end Go.Proofs.YtimcbmgmngkagaaGreatDoor

namespace Go.Proofs.YtimcbmgmngkagaaGreatDoor
open Go.RowKit

/-- What the outer loop has done: i words of x. -/
def MulOut (xs ys zs : List Nat) (i : Nat) : Prop :=
  zs.length = xs.length + ys.length ∧ Dg BW zs ∧ dv BW zs = dv BW (xs.take i) * dv BW ys ∧ ∀ t, i + ys.length ≤ t → zs[t]?.getD 0 = 0

/-- What the inner loop has done: word i of x, j words of y. -/
def MulIn (xs ys z0 zs : List Nat) (i j c : Nat) : Prop :=
  zs.length = xs.length + ys.length ∧ Dg BW zs ∧ c < BW ∧ dv BW zs + BW ^ (i + j) * c = dv BW z0 + BW ^ i * (xs[i]?.getD 0 * dv BW (ys.take j)) ∧ ∀ t, i + ys.length ≤ t → zs[t]?.getD 0 = 0

theorem MulIn.start {xs ys zs : List Nat} {i : Nat} (h : MulOut xs ys zs i) : MulIn xs ys zs zs i 0 0 :=
  ⟨h.1, h.2.1, by decide, by simp [dv], h.2.2.2⟩

theorem MulIn.step {xs ys z0 zs : List Nat} {i j c : Nat} (h : MulIn xs ys z0 zs i j c) (hi : i < xs.length) (hj : j < ys.length) (gx : Dg BW xs) (gy : Dg BW ys) :
    MulIn xs ys z0 (zs.set (i + j) ((c + (xs[i]?.getD 0 * ys[j]?.getD 0 + zs[i + j]?.getD 0)) % BW)) i (j + 1) ((c + (xs[i]?.getD 0 * ys[j]?.getD 0 + zs[i + j]?.getD 0)) / BW) := by
  obtain ⟨h1, h2, h3, h4, h5⟩ := h
  refine ⟨by simp [h1], h2.set _ (Nat.mod_lt _ (by decide)), ?_, ?_, ?_⟩
  · rw [Nat.div_lt_iff_lt_mul (by decide)]
    exact mul_fits (by decide) h3 (gx.get (by decide) i) (gy.get (by decide) j) (h2.get (by decide) (i + j))
  · have g := mul_place (b := BW) (zs := zs) (at_ := i + j) (x := xs[i]?.getD 0) (w := ys[j]?.getD 0) (c := c) (by omega) rfl
    rw [← Nat.add_assoc i j 1, g, h4, dv_take_succ, Nat.mul_add, Nat.mul_add, Nat.pow_add]
    grind
  · intro t ht
    rw [set_get_other _ _ _ _ (by omega)]; exact h5 t ht

theorem MulIn.finish {xs ys z0 zs : List Nat} {i c : Nat} (h : MulIn xs ys z0 zs i ys.length c) (h0 : MulOut xs ys z0 i) (hi : i < xs.length) : MulOut xs ys (zs.set (i + ys.length) c) (i + 1) := by
  obtain ⟨h1, h2, h3, h4, h5⟩ := h
  refine ⟨by simp [h1], h2.set _ h3, ?_, ?_⟩
  · have g := dv_set BW zs (i + ys.length) c (by omega)
    rw [h5 _ (Nat.le_refl _), Nat.mul_zero, Nat.add_zero] at g
    rw [g, h4, dv_take_succ, List.take_of_length_le (Nat.le_refl _), h0.2.2.1, Nat.add_mul, Nat.mul_assoc]
  · intro t ht
    rw [set_get_other _ _ _ _ (by omega)]; exact h5 t (by omega)

theorem MulIn.small {xs ys z0 zs : List Nat} {i j c : Nat} (h : MulIn xs ys z0 zs i j c) : c < 1000000000 := h.2.2.1

set_option maxHeartbeats 1600000 in
theorem multiplyWords_any (p q : Option Addr) (n c m d : Nat) (xs ys : List Nat) (w : World) (hn : n ≤ 1000000000) (hm : m ≤ 1000000000)
    (hx : Rd .u64 w p n xs) (hy : Rd .u64 w q m ys) (gx : Dg BW xs) (gy : Dg BW ys) :
    Calls Tryz.prog 155 #[.slice p n c, .slice q m d] w (Words w fun zs => dv BW zs = dv BW xs * dv BW ys) := by
  have hmk : ∀ w, (Instr.makeSlice 76 (.int .i64 ((n : Int) + (m : Int))) (.int .i64 ((n : Int) + (m : Int)))).run Tryz.prog w = .ok (.slice (some ⟨w.heap.size, 0, none⟩) (n + m) (n + m)) (w.alloc (.cells (Go.madeCells #[.int .u64 0] (n + m)) 117)) := fun w => mkWords (n + m) (by omega) w
  have hbn : Below w.heap.size w (w.alloc (.cells (Go.madeCells #[.int .u64 0] (n + m)) 117)) := (Below.refl _ w).alloc (Nat.le_refl _) _
  have hown0 := Own.new .u64 117 w (n + m)
  go_enter Tryz.func155, Tryz.ntmps155
  go_wp2
  go_loopw [19] (fun i wr => ∃ (k : Nat) (zs : List Nat), k ≤ n ∧ i = .int .i64 k ∧ MulOut xs ys zs k ∧ Own .u64 117 wr w.heap.size zs ∧ Below w.heap.size w wr) (fun i _ => n - (intOf i).toNat)
  case atStart => exact ⟨0, _, Nat.zero_le _, rfl, ⟨by simp [hx.1, hy.1], Dg.replicate (by decide) _, by rw [dv_replicate]; simp [dv], fun t _ => by rw [List.getElem?_replicate]; split <;> rfl⟩, hown0, hbn⟩
  case round =>
    obtain ⟨k, z0, hk, rfl, hout, hown, hbel⟩ := hrel
    by_cases hlt : k < n
    · obtain ⟨b, off, rfl, hb, hcell⟩ := (hx.below hbel).2 k hlt
      obtain ⟨wo, rfl⟩ : ∃ wo : World, wo = wr := ⟨_, rfl⟩
      obtain ⟨a, ha⟩ : ∃ a, xs[k]?.getD 0 = a := ⟨_, rfl⟩
      have a1 : a < 1000000000 := by rw [← ha]; exact gx.get (by decide) k
      rw [ha] at hcell
      have HA := Lib.hid ha
      clear ha
      go_wp2
      go_loopw [8, 26] (fun c j wr => ∃ (t y : Nat) (zs : List Nat), t ≤ m ∧ c = .int .u64 y ∧ j = .int .i64 t ∧ MulIn xs ys z0 zs k t y ∧ Own .u64 117 wr w.heap.size zs ∧ Below w.heap.size w wr) (fun _ j _ => m - (intOf j).toNat)
      case atStart => exact ⟨0, 0, z0, Nat.zero_le _, rfl, rfl, MulIn.start hout, hown, hbel⟩
      case round =>
        obtain ⟨t, y, zs, ht, rfl, rfl, hin, hown1, hbel1⟩ := hrel
        have b3 := hin.small
        have HX := Lib.hid hx.1
        have HY := Lib.hid hy.1
        by_cases htm : t < m
        · obtain ⟨b', off', rfl, hb', hcell'⟩ := (hy.below hbel1).2 t htm
          have hcz := hown1.cell (k + t) (by rw [hin.1, HX.out, HY.out]; omega)
          have hfz := hown1.frozen (k + t)
          have hst := hin.step (by rw [HX.out]; exact hlt) (by rw [HY.out]; exact htm) gx gy
          have hset := hown1.set (k + t) ((y + (xs[k]?.getD 0 * ys[t]?.getD 0 + zs[k + t]?.getD 0)) % BW)
          obtain ⟨u, hu⟩ : ∃ u, ys[t]?.getD 0 = u := ⟨_, rfl⟩
          obtain ⟨z, hz⟩ : ∃ z, zs[k + t]?.getD 0 = z := ⟨_, rfl⟩
          have u1 : u < 1000000000 := by rw [← hu]; exact gy.get (by decide) t
          have z1 : z < 1000000000 := by rw [← hz]; exact hin.2.1.get (by decide) (k + t)
          obtain ⟨p1, p2⟩ := prod_bound a1 u1
          rw [hu] at hcell'
          rw [hz] at hcz
          rw [HA.out, hu, hz] at hst hset
          clear hu hz
          go_wp2
          go_roundw
          case rel =>
            have e1 : ((y : Int) + ((a : Int) * (u : Int) + (z : Int))) / 1000000000 = (((y + (a * u + z)) / BW : Nat) : Int) := by
              rw [Int.natCast_ediv]; simp
            have e2 : ((y : Int) + ((a : Int) * (u : Int) + (z : Int))) % 1000000000 = (((y + (a * u + z)) % BW : Nat) : Int) := by
              rw [Int.natCast_emod]; simp
            rw [e1, e2]
            exact ⟨t + 1, _, _, by omega, rfl, by go_num, hst, hset, hbel1.setCell (by simp) _⟩
          case measure => simp [intOf]; omega
        · obtain rfl : t = m := by omega
          have hcz := hown1.cell (k + t) (by rw [hin.1, HX.out, HY.out]; omega)
          have hfz := hown1.frozen (k + t)
          have hset := hown1.set (k + t) y
          have hfin := (show MulIn xs ys z0 zs k ys.length y by rw [HY.out]; exact hin).finish hout (by rw [HX.out]; exact hlt)
          rw [HY.out] at hfin
          go_wp2
          go_roundw
          case rel => exact ⟨k + 1, _, by omega, by go_num, hfin, hset, hbel1.setCell (by simp) _⟩
          case measure => simp [intOf]; omega
    · obtain rfl : k = n := by omega
      have z1 := hout.1
      have hl : z0.length = k + m := by rw [z1, hx.1, hy.1]
      have z2 := hout.2.1
      have z3 := hout.2.2.1
      have H1 := Lib.hid (And.intro hl z3)
      clear z1 hl z3
      go_wp2_with (go_at_call 147; refine (trimmed_any _ _ _ z0 _ (by unfold maxLen; omega) (Nat.le_refl _) (hown.rd H1.out.1)).mono ?_; rintro e w' ⟨rfl, rfl⟩)
      go_ret
      have hl := H1.out.1
      have g1 : trimLen z0 (k + m) ≤ k + m := trimLen_le _ _
      refine ⟨_, _, _, trimZ z0, rfl, ?_, Nat.le_refl _, trimZ_cn z2, ?_, hbel⟩
      · unfold trimZ; rw [hl]; exact (hown.rd hl).take _ g1
      · show dv BW (trimZ _) = _
        rw [dv_trimZ, H1.out.2, List.take_of_length_le (by rw [hx.1]; exact Nat.le_refl _)]
end Go.Proofs.YtimcbmgmngkagaaGreatDoor

namespace Go.Proofs.YtimcbmgmngkagaaGreatDoor
open Go.RowKit

set_option maxHeartbeats 400000 in
theorem signed_any (neg : Bool) (p : Option Addr) (n c : Nat) (w : World) :
    Calls Tryz.prog 110 #[.bool neg, .slice p n c] w fun e w' => e = .returned (.agg #[.bool (neg && decide (0 < n)), .slice p n c]) ∧ Below w.heap.size w w' := by
  cases neg
  · go_enter Tryz.func110, Tryz.ntmps110
    go_wp2
    refine bodyPost_ret (v := .agg #[.bool false, .slice p n c]) (by simp [results, Tryz.results110, go_sem]) rfl ⟨rfl, (Below.refl _ _).alloc (Nat.le_refl _) _⟩
  · by_cases h : 0 < n
    · have hd : decide (0 < n) = true := by simpa using h
      go_enter Tryz.func110, Tryz.ntmps110
      go_wp2
      refine bodyPost_ret (v := .agg #[.bool true, .slice p n c]) (by simp [results, Tryz.results110, go_sem]) rfl ⟨by simp [hd], (Below.refl _ _).alloc (Nat.le_refl _) _⟩
    · have hd : decide (0 < n) = false := by simpa using h
      go_enter Tryz.func110, Tryz.ntmps110
      go_wp2
      refine bodyPost_ret (v := .agg #[.bool false, .slice p n c]) (by simp [results, Tryz.results110, go_sem]) rfl ⟨by simp [hd], (Below.refl _ _).alloc (Nat.le_refl _) _⟩

theorem Rd.setOther {k : IntKind} {w : World} {p : Option Addr} {n : Nat} {xs : List Nat} (h : Rd k w p n xs) {b o : Nat} {u : Value} (hu : w.cell? ⟨b, o, none⟩ = some u) (hne : ∀ x, u ≠ .int k x) (v : Value) : Rd k (w.setCell ⟨b, o, none⟩ v) p n xs := by
  refine ⟨h.1, fun i hi => ?_⟩
  obtain ⟨b', off, hp, hlt, hc⟩ := h.2 i hi
  refine ⟨b', off, hp, by simpa using hlt, ?_⟩
  rw [World.cell?_setCell_other _ _ _ _ (fun e => ?_)]
  · exact hc
  · rw [e] at hu; rw [hu] at hc; exact hne _ (Option.some.inj hc)

theorem Rd.drew {k : IntKind} {w : World} {p : Option Addr} {n : Nat} {xs : List Nat} (h : Rd k w p n xs) : Rd k w.drew p n xs := h

theorem two_set {W : World} {B : Nat} {u0 u1 : Value} (v0 v1 : Value) (h0 : W.cell? ⟨B, 0, none⟩ = some u0) (h1 : W.cell? ⟨B, 1, none⟩ = some u1) :
    ((W.setCell ⟨B, 0, none⟩ v0).setCell ⟨B, 1, none⟩ v1).cell? ⟨B, 0, none⟩ = some v0 ∧ ((W.setCell ⟨B, 0, none⟩ v0).setCell ⟨B, 1, none⟩ v1).cell? ⟨B, 1, none⟩ = some v1 ∧ (W.setCell ⟨B, 0, none⟩ v0).cell? ⟨B, 1, none⟩ = some u1 := by
  have h2 : (W.setCell ⟨B, 0, none⟩ v0).cell? ⟨B, 1, none⟩ = some u1 := (World.cell?_setCell_other _ _ _ _ (by simp)).trans h1
  exact ⟨(World.cell?_setCell_other _ _ _ _ (by simp)).trans (World.cell?_setCell_same _ _ _ h0), World.cell?_setCell_same _ _ _ h2, h2⟩

/-- A number written into a new variable of its own. -/
theorem Rd.two_set {W : World} {p : Option Addr} {n : Nat} {xs : List Nat} (h : Rd .u64 W p n xs) {B : Nat} (v0 v1 : Value) (h0 : W.cell? ⟨B, 0, none⟩ = some (.bool false)) (h1 : W.cell? ⟨B, 1, none⟩ = some (.slice none 0 0)) :
    Rd .u64 ((W.setCell ⟨B, 0, none⟩ v0).setCell ⟨B, 1, none⟩ v1) p n xs :=
  (h.setOther h0 (by intro x e; cases e) v0).setOther (Go.Proofs.YtimcbmgmngkagaaGreatDoor.two_set v0 v1 h0 h1).2.2 (by intro x e; cases e) v1

/-- Three variables of the call's own, behind a call. -/
theorem three_kept {W w1 : World} (hb : Below W.heap.size W w1) {B : Nat} (hB : B + 1 + 1 < W.heap.size) :
    (∀ o, w1.cell? ⟨B, o, none⟩ = W.cell? ⟨B, o, none⟩) ∧ (∀ o, w1.cell? ⟨B + 1, o, none⟩ = W.cell? ⟨B + 1, o, none⟩) ∧ (∀ o, w1.cell? ⟨B + 1 + 1, o, none⟩ = W.cell? ⟨B + 1 + 1, o, none⟩) ∧
    (∀ o, w1.frozen? ⟨B, o, none⟩ = W.frozen? ⟨B, o, none⟩) ∧ (∀ o, w1.frozen? ⟨B + 1, o, none⟩ = W.frozen? ⟨B + 1, o, none⟩) ∧ (∀ o, w1.frozen? ⟨B + 1 + 1, o, none⟩ = W.frozen? ⟨B + 1 + 1, o, none⟩) ∧
    B + 1 + 1 < w1.heap.size :=
  ⟨fun o => hb.cell (p := ⟨B, o, none⟩) (by show B < _; omega), fun o => hb.cell (p := ⟨B + 1, o, none⟩) (by show B + 1 < _; omega), fun o => hb.cell (p := ⟨B + 1 + 1, o, none⟩) hB,
   fun o => hb.frozen (p := ⟨B, o, none⟩) (by show B < _; omega), fun o => hb.frozen (p := ⟨B + 1, o, none⟩) (by show B + 1 < _; omega), fun o => hb.frozen (p := ⟨B + 1 + 1, o, none⟩) hB, Nat.lt_of_lt_of_le hB hb.size⟩

/-- What a call hands back: a number's sign and words, new. -/
def NumOut (w : World) (P : Bool → List Nat → Prop) (e : Ending) (w' : World) : Prop :=
  ∃ neg p n c zs, e = .returned (.agg #[.bool neg, .slice p n c]) ∧ Rd .u64 w' p n zs ∧ n ≤ c ∧ Cn BW zs ∧ P neg zs ∧ Below w.heap.size w w'

set_option maxHeartbeats 1000000 in
theorem product_core (a b : Bool) (p q : Option Addr) (n c m d : Nat) (xs ys : List Nat) (w : World) (hn : n ≤ 1000000000) (hm : m ≤ 1000000000)
    (hx : Rd .u64 w p n xs) (hy : Rd .u64 w q m ys) (gx : Dg BW xs) (gy : Dg BW ys) :
    Calls Tryz.prog 118 #[.agg #[.bool a, .slice p n c], .agg #[.bool b, .slice q m d]] w (NumOut w fun neg zs => neg = ((a != b) && decide (0 < zs.length)) ∧ dv BW zs = dv BW xs * dv BW ys) := by
  have hb0 : Below w.heap.size w ((((w.alloc (.cells #[.bool a, .slice p n c] 78)).alloc (.cells #[.bool b, .slice q m d] 78)).alloc (.cells #[.bool false, .slice none 0 0] 78)).drew) :=
    ((((Below.refl _ w).alloc (Nat.le_refl _) _).alloc (by simp) _).alloc (by simp <;> omega) _).drew
  have hx1 := hx.below hb0
  have hy1 := hy.below hb0
  go_enter Tryz.func118, Tryz.ntmps118
  go_wp2_with fail

  go_region_held3 (fun w' => w'.cell? ⟨w.heap.size, 0, none⟩ = some (.bool a) ∧ w'.cell? ⟨w.heap.size, 1, none⟩ = some (.slice p n c) ∧ w'.cell? ⟨w.heap.size + 1, 0, none⟩ = some (.bool b) ∧ w'.cell? ⟨w.heap.size + 1, 1, none⟩ = some (.slice q m d))
    (simp [go_sem, *])
    (first
      | (go_at_call 155; refine (multiplyWords_any _ _ _ _ _ _ xs ys _ hn hm hx1 hy1 gx gy).mono ?_; rintro e w1 ⟨r, k, cap, zs, rfl, hr, hk, hz, he, hb1⟩; obtain ⟨hc1, hf1⟩ := bcell hb1; have z1 : w.heap.size < w1.heap.size := (by have := hb1.size; simp at this; omega); have z2 : w.heap.size + 1 < w1.heap.size := (by have := hb1.size; simp at this; omega); have z3 : w.heap.size + 1 + 1 < w1.heap.size := (by have := hb1.size; simp at this; omega))
      | (go_at_call 110; refine (signed_any _ _ _ _ _).mono ?_; rintro e w2 ⟨rfl, hb2⟩; obtain ⟨hc2, hf2⟩ := bcell hb2))
  go_wp2
  have q0 : w2.cell? ⟨w.heap.size + 1 + 1, 0, none⟩ = some (.bool false) := by rw [hc2 _ _ z3, hc1 _ _ (by simp)]; simp [go_sem]
  have q1 : w2.cell? ⟨w.heap.size + 1 + 1, 1, none⟩ = some (.slice none 0 0) := by rw [hc2 _ _ z3, hc1 _ _ (by simp)]; simp [go_sem]
  obtain ⟨r0, r1, _⟩ := two_set (.bool (!a == b && decide (0 < k))) (.slice r k cap) q0 q1
  refine bodyPost_ret (v := .agg #[.bool (!a == b && decide (0 < k)), .slice r k cap]) (by simp [results, Tryz.results118, go_sem, r0, r1]) rfl ⟨_, _, _, _, zs, rfl, (hr.below hb2).two_set _ _ q0 q1, hk, hz, ⟨?_, he⟩, ?_⟩
  · rw [hr.1]; rfl
  · exact (((hb0.trans (hb1.mono (by simp <;> omega))).trans (hb2.mono (by omega))).setCell (by simp <;> omega) _).setCell (by simp <;> omega) _
end Go.Proofs.YtimcbmgmngkagaaGreatDoor

namespace Go.Proofs.YtimcbmgmngkagaaGreatDoor
open Go.RowKit

/-- The integer of a sign and words. -/
def sv (neg : Bool) (d : Nat) : Int := if neg then -(d : Int) else (d : Int)

def SumOf (a b : Bool) (xs ys : List Nat) (neg : Bool) (zs : List Nat) : Prop := (neg = true → 0 < zs.length) ∧ sv neg (dv BW zs) = sv a (dv BW xs) + sv b (dv BW ys)

theorem sv_and (neg : Bool) (zs : List Nat) (h : Cn BW zs) : sv (neg && decide (0 < zs.length)) (dv BW zs) = sv neg (dv BW zs) := by
  cases neg
  · rfl
  · by_cases hz : 0 < zs.length
    · simp [hz]
    · have : zs = [] := List.length_eq_zero_iff.1 (by omega)
      subst this; rfl

set_option maxHeartbeats 1000000 in
theorem plus_same (a : Bool) (p q : Option Addr) (n c m d : Nat) (xs ys : List Nat) (w : World) (hn : n ≤ 1000000000) (hm : m ≤ 1000000000)
    (hx : Rd .u64 w p n xs) (hy : Rd .u64 w q m ys) (gx : Cn BW xs) (gy : Cn BW ys) :
    Calls Tryz.prog 199 #[.agg #[.bool a, .slice p n c], .agg #[.bool a, .slice q m d]] w (NumOut w (SumOf a a xs ys)) := by
  have hb0 : Below w.heap.size w ((((w.alloc (.cells #[.bool a, .slice p n c] 78)).alloc (.cells #[.bool a, .slice q m d] 78)).alloc (.cells #[.bool false, .slice none 0 0] 78)).drew) :=
    ((((Below.refl _ w).alloc (Nat.le_refl _) _).alloc (by simp) _).alloc (by simp <;> omega) _).drew
  have hx1 := hx.below hb0
  have hy1 := hy.below hb0
  go_enter Tryz.func199, Tryz.ntmps199
  go_wp2_with fail
  go_region_held3 (fun w' => w'.cell? ⟨w.heap.size, 0, none⟩ = some (.bool a) ∧ w'.cell? ⟨w.heap.size, 1, none⟩ = some (.slice p n c) ∧ w'.cell? ⟨w.heap.size + 1, 1, none⟩ = some (.slice q m d))
    (simp [go_sem, *])
    (first
      | (go_at_call 108; refine (addWords_any _ _ _ _ _ _ xs ys _ hn hm hx1 hy1 gx.1 gy.1).mono ?_; rintro e w1 ⟨r, k, cap, zs, rfl, hr, hk, hz, he, hb1⟩; obtain ⟨hc1, hf1⟩ := bcell hb1; have z1 : w.heap.size < w1.heap.size := (by have := hb1.size; simp at this; omega); have z2 : w.heap.size + 1 < w1.heap.size := (by have := hb1.size; simp at this; omega); have z3 : w.heap.size + 1 + 1 < w1.heap.size := (by have := hb1.size; simp at this; omega))
      | (go_at_call 110; refine (signed_any _ _ _ _ _).mono ?_; rintro e w2 ⟨rfl, hb2⟩; obtain ⟨hc2, hf2⟩ := bcell hb2))
  go_wp2
  have q0 : w2.cell? ⟨w.heap.size + 1 + 1, 0, none⟩ = some (.bool false) := by rw [hc2 _ _ z3, hc1 _ _ (by simp)]; simp [go_sem]
  have q1 : w2.cell? ⟨w.heap.size + 1 + 1, 1, none⟩ = some (.slice none 0 0) := by rw [hc2 _ _ z3, hc1 _ _ (by simp)]; simp [go_sem]
  obtain ⟨r0, r1, _⟩ := two_set (.bool (a && decide (0 < k))) (.slice r k cap) q0 q1
  refine bodyPost_ret (v := .agg #[.bool (a && decide (0 < k)), .slice r k cap]) (by simp [results, Tryz.results199, go_sem, r0, r1]) rfl ⟨_, _, _, _, zs, rfl, (hr.below hb2).two_set _ _ q0 q1, hk, hz, ⟨?_, ?_⟩, ?_⟩
  · rw [hr.1]; simp
  · rw [← hr.1, sv_and _ _ hz, he]; cases a <;> simp [sv] <;> omega
  · exact (((hb0.trans (hb1.mono (by simp <;> omega))).trans (hb2.mono (by omega))).setCell (by simp <;> omega) _).setCell (by simp <;> omega) _

set_option maxHeartbeats 2000000 in
theorem plus_ge (a b : Bool) (p q : Option Addr) (n c m d : Nat) (xs ys : List Nat) (w : World) (hn : n ≤ 1000000000) (hm : m ≤ 1000000000)
    (hx : Rd .u64 w p n xs) (hy : Rd .u64 w q m ys) (gx : Cn BW xs) (gy : Cn BW ys) (hab : a ≠ b) (hle : dv BW ys ≤ dv BW xs) :
    Calls Tryz.prog 199 #[.agg #[.bool a, .slice p n c], .agg #[.bool b, .slice q m d]] w (NumOut w (SumOf a b xs ys)) := by
  have hb0 : Below w.heap.size w (((w.alloc (.cells #[.bool a, .slice p n c] 78)).alloc (.cells #[.bool b, .slice q m d] 78)).alloc (.cells #[.bool false, .slice none 0 0] 78)) :=
    (((Below.refl _ w).alloc (Nat.le_refl _) _).alloc (by simp) _).alloc (by simp <;> omega) _
  have hx1 := hx.below hb0
  have hy1 := hy.below hb0
  have hmn : m ≤ n := by
    rcases Nat.lt_or_ge n m with h | h
    · have := Cn.lt_of_length (b := BW) (by decide) gx.1 gy (by rw [hx.1, hy.1]; exact h); omega
    · exact h
  obtain ⟨s, hs⟩ : ∃ s, sgnCmp (dv BW xs) (dv BW ys) = s := ⟨_, rfl⟩
  have hs0 : 0 ≤ s := by
    rw [← hs]; unfold sgnCmp; split
    · omega
    · split <;> omega
  have HL := Lib.hid hle
  have hba : (a == b) = false := by cases a <;> cases b <;> simp_all
  have HAB := Lib.hid hab
  have y0 : w.heap.size + 1 + 1 < (((w.alloc (.cells #[.bool a, .slice p n c] 78)).alloc (.cells #[.bool b, .slice q m d] 78)).alloc (.cells #[.bool false, .slice none 0 0] 78)).heap.size := by simp
  clear hle hab
  go_enter Tryz.func199, Tryz.ntmps199
  go_wp2_with (go_at_call 114; refine (compareWords_any _ _ _ _ _ _ xs ys _ hn hm hx1 hy1 gx gy).mono ?_; rintro e w1 ⟨rfl, hb1⟩; obtain ⟨k0, k1, k2, l0, l1, l2, y1⟩ := three_kept hb1 y0)
  have hx2 := hx1.below hb1
  have hy2 := hy1.below hb1
  have hx3 := hx2.drew
  have hy3 := hy2.drew
  have y1' : w.heap.size + 1 + 1 < w1.drew.heap.size := y1
  go_region_held3 (fun w' => w'.cell? ⟨w.heap.size, 0, none⟩ = some (.bool a) ∧ w'.cell? ⟨w.heap.size, 1, none⟩ = some (.slice p n c) ∧ w'.cell? ⟨w.heap.size + 1, 1, none⟩ = some (.slice q m d))
    (simp [go_sem, *])
    (first
      | (go_at_call 109; refine (subtractWords_any _ _ _ _ _ _ xs ys _ hn hmn hx3 hy3 gx.1 gy.1 HL.out).mono ?_; rintro e w2 ⟨r, k, cap, zs, rfl, hr, hk, hz, he, hb2⟩; obtain ⟨u0, u1, u2, v0, v1, v2, y2⟩ := three_kept hb2 y1')
      | (go_at_call 110; refine (signed_any _ _ _ _ _).mono ?_; rintro e w3 ⟨rfl, hb3⟩; obtain ⟨s0, s1, s2, t0, t1, t2, y3⟩ := three_kept hb3 y2))
  go_wp2
  have q0 : w3.cell? ⟨w.heap.size + 1 + 1, 0, none⟩ = some (.bool false) := by rw [s2, u2, World.cell?_drew, k2]; simp [go_sem]
  have q1 : w3.cell? ⟨w.heap.size + 1 + 1, 1, none⟩ = some (.slice none 0 0) := by rw [s2, u2, World.cell?_drew, k2]; simp [go_sem]
  obtain ⟨r0, r1, _⟩ := two_set (.bool (a && decide (0 < k))) (.slice r k cap) q0 q1
  refine bodyPost_ret (v := .agg #[.bool (a && decide (0 < k)), .slice r k cap]) (by simp [results, Tryz.results199, go_sem, r0, r1]) rfl ⟨_, _, _, _, zs, rfl, (hr.below hb3).two_set _ _ q0 q1, hk, hz, ⟨?_, ?_⟩, ?_⟩
  · rw [hr.1]; simp
  · rw [← hr.1, sv_and _ _ hz]
    have hab := HAB.out
    cases a <;> cases b <;> simp [sv] at hab ⊢ <;> omega
  · exact ((((hb0.trans (hb1.mono (by simp <;> omega))).drew.trans (hb2.mono (by simp <;> omega))).trans (hb3.mono (by omega))).setCell (by simp <;> omega) _).setCell (by simp <;> omega) _

/-- Two variables of numbers, exchanged. -/
def swapped (w1 : World) (B : Nat) (a b : Bool) (sp sq : Value) : World :=
  (((w1.setCell ⟨B, 0, none⟩ (.bool b)).setCell ⟨B, 1, none⟩ sq).setCell ⟨B + 1, 0, none⟩ (.bool a)).setCell ⟨B + 1, 1, none⟩ sp

theorem swapped_says {w1 : World} {B : Nat} {a b : Bool} {p q : Option Addr} {n c m d : Nat} (h0 : w1.cell? ⟨B, 0, none⟩ = some (.bool a)) (h1 : w1.cell? ⟨B, 1, none⟩ = some (.slice p n c))
    (k0 : w1.cell? ⟨B + 1, 0, none⟩ = some (.bool b)) (k1 : w1.cell? ⟨B + 1, 1, none⟩ = some (.slice q m d)) {W : World} (hW : swapped w1 B a b (.slice p n c) (.slice q m d) = W) :
    W.cell? ⟨B, 0, none⟩ = some (.bool b) ∧ W.cell? ⟨B, 1, none⟩ = some (.slice q m d) ∧ W.cell? ⟨B + 1, 1, none⟩ = some (.slice p n c) ∧
    (∀ o, W.cell? ⟨B + 1 + 1, o, none⟩ = w1.cell? ⟨B + 1 + 1, o, none⟩) ∧ (∀ o, W.frozen? ⟨B + 1 + 1, o, none⟩ = w1.frozen? ⟨B + 1 + 1, o, none⟩) ∧ W.heap.size = w1.heap.size ∧
    (∀ r k xs, Rd .u64 w1 r k xs → Rd .u64 W r k xs) ∧ (∀ C, C ≤ B → Below C w1 W) := by
  subst hW
  have g1 : (w1.setCell ⟨B, 0, none⟩ (.bool b)).cell? ⟨B, 1, none⟩ = some (.slice p n c) := (World.cell?_setCell_other _ _ _ _ (by simp)).trans h1
  have g2 : ((w1.setCell ⟨B, 0, none⟩ (.bool b)).setCell ⟨B, 1, none⟩ (.slice q m d)).cell? ⟨B + 1, 0, none⟩ = some (.bool b) := (World.cell?_setCell_other _ _ _ _ (by simp)).trans ((World.cell?_setCell_other _ _ _ _ (by simp)).trans k0)
  have g3 : (((w1.setCell ⟨B, 0, none⟩ (.bool b)).setCell ⟨B, 1, none⟩ (.slice q m d)).setCell ⟨B + 1, 0, none⟩ (.bool a)).cell? ⟨B + 1, 1, none⟩ = some (.slice q m d) :=
    (World.cell?_setCell_other _ _ _ _ (by simp)).trans ((World.cell?_setCell_other _ _ _ _ (by simp)).trans ((World.cell?_setCell_other _ _ _ _ (by simp)).trans k1))
  unfold swapped
  refine ⟨?_, ?_, ?_, ?_, ?_, by simp, ?_, ?_⟩
  · exact (World.cell?_setCell_other _ _ _ _ (by simp)).trans ((World.cell?_setCell_other _ _ _ _ (by simp)).trans ((World.cell?_setCell_other _ _ _ _ (by simp)).trans (World.cell?_setCell_same _ _ _ h0)))
  · exact (World.cell?_setCell_other _ _ _ _ (by simp)).trans ((World.cell?_setCell_other _ _ _ _ (by simp)).trans (World.cell?_setCell_same _ _ _ g1))
  · exact World.cell?_setCell_same _ _ _ g3
  · intro o
    exact (World.cell?_setCell_other _ _ _ _ (by simp)).trans ((World.cell?_setCell_other _ _ _ _ (by simp)).trans ((World.cell?_setCell_other _ _ _ _ (by simp <;> omega)).trans (World.cell?_setCell_other _ _ _ _ (by simp <;> omega))))
  · intro o; simp
  · intro r k xs h
    exact (((h.setOther h0 (by intro x e; cases e) _).setOther g1 (by intro x e; cases e) _).setOther g2 (by intro x e; cases e) _).setOther g3 (by intro x e; cases e) _
  · intro C hC
    exact ((((Below.refl C w1).setCell (by simpa using hC) _).setCell (by simpa using hC) _).setCell (by simp <;> omega) _).setCell (by simp <;> omega) _

set_option maxHeartbeats 2000000 in
theorem plus_lt (a b : Bool) (p q : Option Addr) (n c m d : Nat) (xs ys : List Nat) (w : World) (hn : n ≤ 1000000000) (hm : m ≤ 1000000000)
    (hx : Rd .u64 w p n xs) (hy : Rd .u64 w q m ys) (gx : Cn BW xs) (gy : Cn BW ys) (hab : a ≠ b) (hle : dv BW xs < dv BW ys) :
    Calls Tryz.prog 199 #[.agg #[.bool a, .slice p n c], .agg #[.bool b, .slice q m d]] w (NumOut w (SumOf a b xs ys)) := by
  have hb0 : Below w.heap.size w (((w.alloc (.cells #[.bool a, .slice p n c] 78)).alloc (.cells #[.bool b, .slice q m d] 78)).alloc (.cells #[.bool false, .slice none 0 0] 78)) :=
    (((Below.refl _ w).alloc (Nat.le_refl _) _).alloc (by simp) _).alloc (by simp <;> omega) _
  have hx1 := hx.below hb0
  have hy1 := hy.below hb0
  have hmn : n ≤ m := by
    rcases Nat.lt_or_ge m n with h | h
    · have := Cn.lt_of_length (b := BW) (by decide) gy.1 gx (by rw [hy.1, hx.1]; exact h); omega
    · exact h
  have hs : sgnCmp (dv BW xs) (dv BW ys) = -1 := sgnCmp_lt (by omega)
  have HL := Lib.hid (Nat.le_of_lt hle)
  have hba : (a == b) = false := by cases a <;> cases b <;> simp_all
  have HAB := Lib.hid hab
  have y0 : w.heap.size + 1 + 1 < (((w.alloc (.cells #[.bool a, .slice p n c] 78)).alloc (.cells #[.bool b, .slice q m d] 78)).alloc (.cells #[.bool false, .slice none 0 0] 78)).heap.size := by simp
  clear hle hab
  go_enter Tryz.func199, Tryz.ntmps199
  go_wp2_with (go_at_call 114; refine (compareWords_any _ _ _ _ _ _ xs ys _ hn hm hx1 hy1 gx gy).mono ?_; rintro e w1 ⟨rfl, hb1⟩; obtain ⟨k0, k1, k2, l0, l1, l2, y1⟩ := three_kept hb1 y0)
  have hx2 := hx1.below hb1
  have hy2 := hy1.below hb1
  have m0 : w1.cell? ⟨w.heap.size, 0, none⟩ = some (.bool a) := by rw [k0]; simp [go_sem]
  have m1 : w1.cell? ⟨w.heap.size, 1, none⟩ = some (.slice p n c) := by rw [k0]; simp [go_sem]
  have m2 : w1.cell? ⟨w.heap.size + 1, 0, none⟩ = some (.bool b) := by rw [k1]; simp [go_sem]
  have m3 : w1.cell? ⟨w.heap.size + 1, 1, none⟩ = some (.slice q m d) := by rw [k1]; simp [go_sem]
  have F := @swapped_says w1 w.heap.size a b p q n c m d m0 m1 m2 m3 _ rfl
  unfold swapped at F
  clear m0 m1 m2 m3
  generalize (((w1.setCell ⟨w.heap.size, 0, none⟩ (.bool b)).setCell ⟨w.heap.size, 1, none⟩ (.slice q m d)).setCell ⟨w.heap.size + 1, 0, none⟩ (.bool a)).setCell ⟨w.heap.size + 1, 1, none⟩ (.slice p n c) = W at F ⊢
  obtain ⟨F0, F1, F2, F3, F4, F5, F6, F7⟩ := F
  have hx3 := (F6 _ _ _ hx2).drew
  have hy3 := (F6 _ _ _ hy2).drew
  have hbW := F7 w.heap.size (Nat.le_refl _)
  have y1' : w.heap.size + 1 + 1 < W.drew.heap.size := by show _ < W.heap.size; rw [F5]; exact y1
  clear F5 F6 F7
  go_region_held3 (fun w' => w'.cell? ⟨w.heap.size, 0, none⟩ = some (.bool b) ∧ w'.cell? ⟨w.heap.size, 1, none⟩ = some (.slice q m d) ∧ w'.cell? ⟨w.heap.size + 1, 1, none⟩ = some (.slice p n c))
    (simp [go_sem, *])
    (first
      | (go_at_call 109; refine (subtractWords_any _ _ _ _ _ _ ys xs _ hm hmn hy3 hx3 gy.1 gx.1 HL.out).mono ?_; rintro e w2 ⟨r, k, cap, zs, rfl, hr, hk, hz, he, hb2⟩; obtain ⟨u0, u1, u2, v0, v1, v2, y2⟩ := three_kept hb2 y1')
      | (go_at_call 110; refine (signed_any _ _ _ _ _).mono ?_; rintro e w3 ⟨rfl, hb3⟩; obtain ⟨s0, s1, s2, t0, t1, t2, y3⟩ := three_kept hb3 y2))
  go_wp2
  have q0 : w3.cell? ⟨w.heap.size + 1 + 1, 0, none⟩ = some (.bool false) := by rw [s2, u2, World.cell?_drew, F3, k2]; simp [go_sem]
  have q1 : w3.cell? ⟨w.heap.size + 1 + 1, 1, none⟩ = some (.slice none 0 0) := by rw [s2, u2, World.cell?_drew, F3, k2]; simp [go_sem]
  obtain ⟨r0, r1, _⟩ := two_set (.bool (b && decide (0 < k))) (.slice r k cap) q0 q1
  refine bodyPost_ret (v := .agg #[.bool (b && decide (0 < k)), .slice r k cap]) (by simp [results, Tryz.results199, go_sem, r0, r1]) rfl ⟨_, _, _, _, zs, rfl, (hr.below hb3).two_set _ _ q0 q1, hk, hz, ⟨?_, ?_⟩, ?_⟩
  · rw [hr.1]; simp
  · rw [← hr.1, sv_and _ _ hz]
    have hab := HAB.out
    cases a <;> cases b <;> simp [sv] at hab ⊢ <;> omega
  · exact (((((hb0.trans (hb1.mono (by simp <;> omega))).trans hbW).drew.trans (hb2.mono (by omega))).trans (hb3.mono (by omega))).setCell (by simp <;> omega) _).setCell (by simp <;> omega) _

/-- x + y. -/
theorem plus_any (a b : Bool) (p q : Option Addr) (n c m d : Nat) (xs ys : List Nat) (w : World) (hn : n ≤ 1000000000) (hm : m ≤ 1000000000)
    (hx : Rd .u64 w p n xs) (hy : Rd .u64 w q m ys) (gx : Cn BW xs) (gy : Cn BW ys) :
    Calls Tryz.prog 199 #[.agg #[.bool a, .slice p n c], .agg #[.bool b, .slice q m d]] w (NumOut w (SumOf a b xs ys)) := by
  by_cases h : a = b
  · subst h; exact plus_same a p q n c m d xs ys w hn hm hx hy gx gy
  · by_cases h2 : dv BW ys ≤ dv BW xs
    · exact plus_ge a b p q n c m d xs ys w hn hm hx hy gx gy h h2
    · exact plus_lt a b p q n c m d xs ys w hn hm hx hy gx gy h (by omega)

end Go.Proofs.YtimcbmgmngkagaaGreatDoor

namespace Go.Proofs.YtimcbmgmngkagaaGreatDoor
open Go.RowKit

/-- A sign and a slice of words say the integer z; the words are at most L. -/
structure NumIs (w : World) (neg : Bool) (p : Option Addr) (n c : Nat) (xs : List Nat) (z : Int) (L : Nat) : Prop where
  rd : Rd .u64 w p n xs
  cap : n ≤ c
  len : n ≤ L
  cn : Cn BW xs
  pos : neg = true → 0 < n
  val : z = sv neg (dv BW xs)

/-- What a call hands back: a number. -/
def NumV (w : World) (z : Int) (L : Nat) (e : Ending) (w' : World) : Prop :=
  ∃ neg p n c xs, e = .returned (.agg #[.bool neg, .slice p n c]) ∧ NumIs w' neg p n c xs z L ∧ Below w.heap.size w w'

theorem NumIs.below {w w' : World} {neg : Bool} {p : Option Addr} {n c : Nat} {xs : List Nat} {z : Int} {L : Nat} (h : NumIs w neg p n c xs z L) (hb : Below w.heap.size w w') : NumIs w' neg p n c xs z L :=
  { h with rd := h.rd.below hb }

theorem NumIs.mono {w : World} {neg : Bool} {p : Option Addr} {n c : Nat} {xs : List Nat} {z : Int} {L M : Nat} (h : NumIs w neg p n c xs z L) (hM : L ≤ M) : NumIs w neg p n c xs z M :=
  { h with len := Nat.le_trans h.len hM }

theorem sv_natAbs (neg : Bool) (d : Nat) : (sv neg d).natAbs = d := by cases neg <;> simp [sv]

theorem NumIs.small {w : World} {neg : Bool} {p : Option Addr} {n c : Nat} {xs : List Nat} {z : Int} {L : Nat} (h : NumIs w neg p n c xs z L) : z.natAbs < BW ^ L := by
  rw [h.val, sv_natAbs]
  have h1 := dv_lt h.cn.1
  rw [h.rd.1] at h1
  exact Nat.lt_of_lt_of_le h1 (Nat.pow_le_pow_right (by decide) h.len)

theorem NumIs.mk' {w : World} {neg : Bool} {p : Option Addr} {n c : Nat} {xs : List Nat} {z : Int} {L : Nat} (rd : Rd .u64 w p n xs) (cap : n ≤ c) (cn : Cn BW xs) (pos : neg = true → 0 < xs.length) (val : sv neg (dv BW xs) = z) (hs : z.natAbs < BW ^ L) : NumIs w neg p n c xs z L where
  rd := rd
  cap := cap
  len := by rw [← rd.1]; exact cn.length_le (by decide) (by rw [← val, sv_natAbs] at hs; exact hs)
  cn := cn
  pos := by rw [← rd.1]; exact pos
  val := val.symm

theorem small_add {a b : Int} {L M : Nat} (ha : a.natAbs < BW ^ L) (hb : b.natAbs < BW ^ M) : (a + b).natAbs < BW ^ (max L M + 1) := by
  have h1 := Nat.pow_le_pow_right (n := BW) (by decide) (Nat.le_max_left L M)
  have h2 := Nat.pow_le_pow_right (n := BW) (by decide) (Nat.le_max_right L M)
  have h3 : BW ^ (max L M + 1) = BW ^ max L M * BW := Nat.pow_succ ..
  have h4 : BW ^ max L M * 2 ≤ BW ^ max L M * BW := Nat.mul_le_mul_left _ (by decide)
  have h5 := Int.natAbs_add_le a b
  omega

theorem small_mul {a b : Int} {L M : Nat} (ha : a.natAbs < BW ^ L) (hb : b.natAbs < BW ^ M) : (a * b).natAbs < BW ^ (L + M) := by
  rw [Int.natAbs_mul, Nat.pow_add]
  exact Nat.mul_lt_mul_of_lt_of_lt ha hb

theorem plus_num {a b : Bool} {p q : Option Addr} {n c m d : Nat} {xs ys : List Nat} {x y : Int} {L M : Nat} {w : World} (hx : NumIs w a p n c xs x L) (hy : NumIs w b q m d ys y M) (hL : L ≤ 1000000000) (hM : M ≤ 1000000000) :
    Calls Tryz.prog 199 #[.agg #[.bool a, .slice p n c], .agg #[.bool b, .slice q m d]] w (NumV w (x + y) (max L M + 1)) := by
  refine (plus_any a b p q n c m d xs ys w (Nat.le_trans hx.len hL) (Nat.le_trans hy.len hM) hx.rd hy.rd hx.cn hy.cn).mono ?_
  rintro e w' ⟨neg, r, k, cap, zs, rfl, hr, hk, hz, ⟨hp, hv⟩, hb⟩
  exact ⟨neg, r, k, cap, zs, rfl, NumIs.mk' hr hk hz hp (by rw [hv, ← hx.val, ← hy.val]) (small_add hx.small hy.small), hb⟩

theorem sv_mul (a b : Bool) (d e : Nat) : sv (a != b) (d * e) = sv a d * sv b e := by
  cases a <;> cases b <;> simp [sv, Int.neg_mul, Int.mul_neg]

theorem product_num {a b : Bool} {p q : Option Addr} {n c m d : Nat} {xs ys : List Nat} {x y : Int} {L M : Nat} {w : World} (hx : NumIs w a p n c xs x L) (hy : NumIs w b q m d ys y M) (hL : L ≤ 1000000000) (hM : M ≤ 1000000000) :
    Calls Tryz.prog 118 #[.agg #[.bool a, .slice p n c], .agg #[.bool b, .slice q m d]] w (NumV w (x * y) (L + M)) := by
  refine (product_core a b p q n c m d xs ys w (Nat.le_trans hx.len hL) (Nat.le_trans hy.len hM) hx.rd hy.rd hx.cn.1 hy.cn.1).mono ?_
  rintro e w' ⟨neg, r, k, cap, zs, rfl, hr, hk, hz, ⟨rfl, hv⟩, hb⟩
  refine ⟨_, r, k, cap, zs, rfl, NumIs.mk' hr hk hz (by simp) ?_ (small_mul hx.small hy.small), hb⟩
  rw [sv_and _ _ hz, hv, sv_mul, ← hx.val, ← hy.val]

set_option maxHeartbeats 400000 in
theorem opposite_num {a : Bool} {p : Option Addr} {n c : Nat} {xs : List Nat} {x : Int} {L : Nat} {w : World} (hx : NumIs w a p n c xs x L) :
    Calls Tryz.prog 158 #[.agg #[.bool a, .slice p n c]] w (NumV w (-x) L) := by
  have hb0 : Below w.heap.size w ((w.alloc (.cells #[.bool a, .slice p n c] 78)).alloc (.cells #[.bool false, .slice none 0 0] 78)) :=
    ((Below.refl _ w).alloc (Nat.le_refl _) _).alloc (by simp) _
  have hx1 := hx.below hb0
  have y0 : w.heap.size + 1 < ((w.alloc (.cells #[.bool a, .slice p n c] 78)).alloc (.cells #[.bool false, .slice none 0 0] 78)).heap.size := by simp
  go_enter Tryz.func158, Tryz.ntmps158
  go_wp2_with (go_at_call 110; refine (signed_any _ _ _ _ _).mono ?_; rintro e w1 ⟨rfl, hb1⟩; obtain ⟨hc1, hf1⟩ := bcell hb1)
  have q0 : w1.cell? ⟨w.heap.size + 1, 0, none⟩ = some (.bool false) := by rw [hc1 _ _ y0]; simp [go_sem]
  have q1 : w1.cell? ⟨w.heap.size + 1, 1, none⟩ = some (.slice none 0 0) := by rw [hc1 _ _ y0]; simp [go_sem]
  obtain ⟨r0, r1, _⟩ := two_set (.bool (!a && decide (0 < n))) (.slice p n c) q0 q1
  refine bodyPost_ret (v := .agg #[.bool (!a && decide (0 < n)), .slice p n c]) (by simp [results, Tryz.results158, go_sem, r0, r1]) rfl ⟨_, _, _, _, xs, rfl, NumIs.mk' ((hx1.rd.below hb1).two_set _ _ q0 q1) hx.cap hx.cn ?_ ?_ ?_, ?_⟩
  · rw [hx.rd.1]; simp
  · rw [← hx.rd.1, sv_and _ _ hx.cn, hx.val]; cases a <;> simp [sv]
  · rw [Int.natAbs_neg]; exact hx.small
  · exact ((hb0.trans (hb1.mono (by simp <;> omega))).setCell (by simp) _).setCell (by simp) _

end Go.Proofs.YtimcbmgmngkagaaGreatDoor
