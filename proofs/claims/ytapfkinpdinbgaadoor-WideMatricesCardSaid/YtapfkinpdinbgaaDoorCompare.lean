/-
  Which of two numbers' words say more.
-/
import Derived.Test.YtapfkinpdinbgaaDoorIter
namespace Go.Proofs.YtapfkinpdinbgaaDoor
open Go.RowKit Go.Shelf
attribute [local go_sem] Oper.semAt_some

theorem mem_upto {len k j : Nat} (h : j < k) : dnAt len j ∈ upto (dnAt len) k := by
  unfold upto; exact List.mem_map.2 ⟨j, List.mem_range.2 h, rfl⟩

/-- Places above are alike. -/
theorem drop_alike {n k : Nat} {xs ys : List Nat} (hx : xs.length = n) (hy : ys.length = n) (hk : k < n) (h : ∀ j ∈ upto (dnAt n) k, xs[j.1]?.getD 0 = ys[j.1]?.getD 0) :
    xs.drop (n - 1 - k + 1) = ys.drop (n - 1 - k + 1) := by
  apply List.ext_getElem
  · simp [hx, hy]
  · intro i h1 h2
    simp at h1 h2
    have hm := h (dnAt n (n - 1 - (n - 1 - k + 1 + i))) (mem_upto (by omega))
    have e : n - 1 - (n - 1 - (n - 1 - k + 1 + i)) = n - 1 - k + 1 + i := by omega
    simp only [dnAt, e] at hm
    rw [List.getElem?_eq_getElem (by omega), List.getElem?_eq_getElem (by omega)] at hm
    simpa using hm

theorem cmp_at {n k : Nat} {xs ys : List Nat} (gx : Dg BW xs) (gy : Dg BW ys) (hx : xs.length = n) (hy : ys.length = n) (hk : k < n) (h : ∀ j ∈ upto (dnAt n) k, xs[j.1]?.getD 0 = ys[j.1]?.getD 0)
    (hne : xs[(dnAt n k).1]?.getD 0 ≠ ys[(dnAt n k).1]?.getD 0) : sgnCmp (xs[(dnAt n k).1]?.getD 0 : Nat) (ys[(dnAt n k).1]?.getD 0 : Nat) = sgnCmp (dv BW xs) (dv BW ys) := by
  have hd := drop_alike hx hy hk h
  simp only [dnAt] at hne ⊢
  rcases Nat.lt_or_gt_of_ne hne with h1 | h1
  · have := dv_lt_at gx (hx.trans hy.symm) (n - 1 - k) (by omega) hd h1
    rw [sgnCmp_lt (by omega), sgnCmp_lt (by omega)]
  · have := dv_lt_at gy (hy.trans hx.symm) (n - 1 - k) (by omega) hd.symm h1
    rw [sgnCmp_gt (by omega), sgnCmp_gt (by omega)]

theorem cmp_none {n : Nat} {xs ys : List Nat} (hx : xs.length = n) (hy : ys.length = n) (h : ∀ j ∈ upto (dnAt n) n, xs[j.1]?.getD 0 = ys[j.1]?.getD 0) : xs = ys := by
  apply List.ext_getElem
  · simp [hx, hy]
  · intro i h1 h2
    have hm := h (dnAt n (n - 1 - i)) (mem_upto (by omega))
    have e : n - 1 - (n - 1 - i) = i := by omega
    simp only [dnAt, e] at hm
    rw [List.getElem?_eq_getElem h1, List.getElem?_eq_getElem h2] at hm
    simpa using hm

theorem upto_snoc {α : Type} {f : Nat → α} {k : Nat} {pre : List α} {x : α} (h : upto f k = pre ++ [x]) : ∃ j, k = j + 1 ∧ pre = upto f j ∧ x = f j := by
  cases k with
  | zero => simp [upto] at h
  | succ j =>
    rw [upto_succ] at h
    have := List.append_inj' h rfl
    exact ⟨j, rfl, this.1.symm, by simpa using this.2.symm⟩

set_option maxRecDepth 100000 in
set_option maxHeartbeats 2000000 in
theorem compareWords_any (p q : Option Addr) (n c m d : Nat) (xs ys : List Nat) (w : World) (hn : n ≤ 1000000000) (hm : m ≤ 1000000000)
    (hx : Rd .u64 w p n xs) (hy : Rd .u64 w q m ys) (gx : Cn BW xs) (gy : Cn BW ys) :
    Calls Tryd.prog 78 #[.slice p n c, .slice q m d] w fun e w' => e = .returned (.int .i64 (sgnCmp (dv BW xs) (dv BW ys))) ∧ Below w.heap.size w w' := by
  refine (callsIn_wide (n := 6)).1 ?_
  refine callsIn_of_wp_marks Tryd.func78 rfl trivial ?_ rfl
  simp only [Tryd.ntmps78, List.size_toArray, List.length_cons, List.length_nil, Nat.reduceAdd, Nat.reduceSub, Array.replicate_succ, Array.replicate_zero, List.push_toArray, List.append_toArray, List.nil_append, List.cons_append]
  by_cases hlen : n = m
  · subst hlen
    have hB0 : Below w.heap.size w (((w.alloc (.cells #[.slice q n d] 77)).alloc (.cells #[.int .i64 0] 3)).alloc (.cells #[.slice p n c] 77)) := (((Below.refl _ w).alloc (Nat.le_refl _) _).alloc (by simp) _).alloc (by simp; omega) _
    gi_wp2_with (refine ⟨trivial, ?_⟩; gi_at_call 72; refine (down_in Fence.wide _ trivial rfl _ _ _ _).mono ?_; rintro e w' ⟨rfl, rfl⟩)
    have c0 := Boxed.new w 77 (.slice q n d)
    have c1 := Boxed.new (w.alloc (.cells #[.slice q n d] 77)) 3 (.int .i64 0)
    have c2 := Boxed.new ((w.alloc (.cells #[.slice q n d] 77)).alloc (.cells #[.int .i64 0] 3)) 77 (.slice p n c)
    simp only [World.size_alloc] at c1 c2
    refine wpIn_rangeFunc_ownF rfl (by omega) (gf := 98) (lb := #[.pointer (some ⟨w.heap.size + 1 + 1, 0, none⟩)]) rfl trivial (enters_of Tryd.func98 (by kernel_rfl) rfl)
      (down_stops Fence.wide 5 trivial rfl (by omega) (w.heap.size + 1 + 1) n c (fun b => b < w.heap.size ∨ b = w.heap.size + 1 + 1) p xs hn _ (fun b hb => by simp; omega) c2.cell (Or.inr rfl) hx.1
        (fun i hi => by obtain ⟨b, off, hp, hb, hcl⟩ := hx.2 i hi; exact ⟨b, off, hp, Or.inl hb, (hB0.cell (p := ⟨b, off + i, none⟩) hb).trans hcl⟩))
      KeepsAt.trans (KeepsAt.putObj (fun b hb => by simp; omega)) (Below.refl _ _) (fun _ => rfl)
      (fun pre W => (Hid (∀ j ∈ pre, xs[j.1]?.getD 0 = ys[j.1]?.getD 0) ∧ W.cell? ⟨w.heap.size, 0, none⟩ = some (.slice q n d) ∧ W.cell? ⟨w.heap.size + 1, 0, none⟩ = some (.int .i64 0) ∧ W.frozen? ⟨w.heap.size + 1, 0, none⟩ = false) ∧ Below w.heap.size w W)
      (fun c pre W => (c = .ret ∧ Hid (∃ pre' x, pre = pre' ++ [x] ∧ (∀ j ∈ pre', xs[j.1]?.getD 0 = ys[j.1]?.getD 0) ∧ xs[x.1]?.getD 0 ≠ ys[x.1]?.getD 0 ∧ W.cell? ⟨w.heap.size + 1, 0, none⟩ = some (.int .i64 (sgnCmp (xs[x.1]?.getD 0 : Nat) (ys[x.1]?.getD 0 : Nat))))) ∧ Below w.heap.size w W)
      (OwnFrom.and (Own.from (fun s A B row hs hg hr => ⟨hs.1, cell_kept hs.2.1 hg hr, cell_kept hs.2.2.1 hg hr, (frozen_kept hs.2.2.1 hg hr).trans hs.2.2.2⟩) _) (ownFrom_below (Nat.le_refl _) (by simp; omega)))
      (fun c => OwnFrom.and (Own.from (fun s A B row hs hg hr => ⟨hs.1, (by obtain ⟨pre', x, e1, e2, e3, e4⟩ := hs.2; exact ⟨pre', x, e1, e2, e3, cell_kept e4 hg hr⟩)⟩) _) (ownFrom_below (Nat.le_refl _) (by simp; omega)))
      ⟨⟨(fun j hj => by cases hj), ((c0.alloc _).alloc _).cell, (c1.alloc _).cell, (c1.alloc _).frozen⟩, hB0⟩
      (fun x => { tmps := #[.slice p n c, .slice q n d, undef, .pointer (some ⟨w.heap.size, 0, none⟩), .pointer (some ⟨w.heap.size + 1, 0, none⟩), .int .i64 (x.1 : Int), .int .u64 ((xs[x.1]?.getD 0 : Nat) : Int), .slice p n c,
          .int .i64 (n : Int), .slice q n d, .int .i64 (n : Int), .bool false, undef, undef, undef, undef, undef, .slice p n c,
          .func (.func 98) #[] #[.pointer (some ⟨w.heap.size + 1 + 1, 0, none⟩)], .int .i64 (x.1 : Int), .int .u64 ((xs[x.1]?.getD 0 : Nat) : Int),
          undef, undef, undef, undef, undef, undef, undef, undef, undef, undef, undef, undef], defers := [] }) ?assign ?body ?done ?stop
    case assign =>
      intro l x W K hK
      unfold encDn
      gi_wp2
      exact hK
    case body =>
      rintro l pre ⟨i, hi⟩ W ⟨⟨hp, hcy, hcr, hfr⟩, hB⟩ hlt
      have hin : i < n := hi (by omega)
      obtain ⟨b', off', rfl, hb', hcell'⟩ := (hy.below hB).2 i hin
      dsimp only
      by_cases hxy : xs[i]?.getD 0 = ys[i]?.getD 0
      · have HH := Lib.hid hxy
        rw [← hxy] at hcell'
        clear hxy
        gi_wp2
        exact ⟨KeepsOthers.refl _, KeepsAt.refl _ _, ⟨(fun j hj => (List.mem_append.1 hj).elim (hp.out j) (fun e => by simp at e; subst e; exact HH.out)), hcy, hcr, hfr⟩, hB⟩
      · have hne : (((xs[i]?.getD 0 : Nat) : Int) != ((ys[i]?.getD 0 : Nat) : Int)) = true := by simp; omega
        have HH := Lib.hid hxy
        clear hxy
        gi_wp2_with (refine ⟨trivial, ?_⟩; gi_at_call 101; refine (CallsIn.inRound l (callsIn_wide.2 (cmp_uint64 _ _ _))).mono ?_; rintro e w' ⟨rfl, rfl⟩)
        exact ⟨KeepsOthers.setCell _ _ _, ⟨rfl, ⟨pre, ⟨i, hi⟩, rfl, hp.out, HH.out, World.cell?_setCell_same' _ _ _ (by rw [hcr]; rfl)⟩⟩, hB.setCell (p := ⟨w.heap.size + 1, 0, none⟩) (by simp) _⟩
    case done =>
      rintro D zs W hD rfl ⟨⟨hp, hcy, hcr, hfr⟩, hB⟩ hK
      obtain rfl : xs = ys := cmp_none hx.1 hy.1 hp.out
      gi_wp2
      have hK' := (KeepsOthers.setCell W ⟨w.heap.size + 1, 0, none⟩ (.int .i64 0)).same D _ hK rfl
      refine ⟨by simp, .inl ⟨_, _, rfl, run_takeDeferred hK', ?_⟩⟩
      have hc5 := cell_kept (World.cell?_setCell_same' W ⟨w.heap.size + 1, 0, none⟩ (.int .i64 0) (by rw [hcr]; rfl)) (grownBy_putObj' _ D (.deferred none)) (fun r e => by cases e; exact ⟨_, hK', rfl⟩)
      refine ⟨.int .i64 0, ?_, by rw [sgnCmp_eq], (hB.setCell (p := ⟨w.heap.size + 1, 0, none⟩) (by simp) _).trans (belowK_b (w := w) (Nat.le_refl _) _ D _ _ (by simp at hD; omega) hK' rfl rfl)⟩
      simp [results, Tryd.f78, go_sem, hc5]
    case stop =>
      rintro D c pre W hD ⟨k, hk, rfl⟩ ⟨⟨rfl, hs⟩, hB⟩ hK
      obtain ⟨pre', x, e1, e2, e3, e4⟩ := hs.out
      obtain ⟨j, rfl, rfl, rfl⟩ := upto_snoc e1
      rw [cmp_at gx.1 gy.1 hx.1 hy.1 (by omega) e2 e3] at e4
      clear hs e1 e2 e3
      gi_wp2
      refine ⟨by simp, .inl ⟨_, _, rfl, run_takeDeferred hK, ?_⟩⟩
      have hc5 := cell_kept e4 (grownBy_putObj' _ D (.deferred none)) (fun r e => by cases e; exact ⟨_, hK, rfl⟩)
      refine ⟨.int .i64 (sgnCmp (dv BW xs) (dv BW ys)), ?_, rfl, hB.trans (belowK_b (w := w) (Nat.le_refl _) W D _ _ (by simp at hD; omega) hK rfl rfl)⟩
      simp [results, Tryd.f78, go_sem, hc5]
  · have hne : ((n : Int) != (m : Int)) = true := by simp; omega
    have hfin : sgnCmp (n : Int) (m : Int) = sgnCmp (dv BW xs) (dv BW ys) := by
      rcases Nat.lt_or_gt_of_ne hlen with h | h
      · have := Cn.lt_of_length (b := BW) (by decide) gx.1 gy (by rw [hx.1, hy.1]; exact h)
        rw [sgnCmp_lt (by omega), sgnCmp_lt (by omega)]
      · have := Cn.lt_of_length (b := BW) (by decide) gy.1 gx (by rw [hx.1, hy.1]; exact h)
        rw [sgnCmp_gt (by omega), sgnCmp_gt (by omega)]
    have HF := Lib.hid hfin
    clear hfin hlen
    gi_wp2_with (refine ⟨trivial, ?_⟩; gi_at_call 77; refine (callsIn_wide.2 (cmp_int _ _ _)).mono ?_; rintro e w' ⟨rfl, rfl⟩)
    refine ⟨.int .i64 (sgnCmp (n : Int) (m : Int)), ?_, by rw [HF.out], ((Below.refl _ w).alloc (Nat.le_refl _) _).alloc (by simp) _⟩
    simp [results, Tryd.f78, go_sem]
end Go.Proofs.YtapfkinpdinbgaaDoor
