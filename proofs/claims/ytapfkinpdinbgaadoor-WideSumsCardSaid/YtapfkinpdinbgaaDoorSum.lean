/-
  The sum of a list; the order of two numbers; 1.
-/
import Derived.Test.YtapfkinpdinbgaaDoorPair
import Derived.Test.YtapfkinpdinbgaaDoorWritten
namespace Go.Proofs.YtapfkinpdinbgaaDoor
open Go.RowKit

theorem Boxed2.frozen {W : World} {B i : Nat} {a b : Value} {t : TypeId} (h : Boxed2 W B a b t) : W.frozen? ⟨B, i, none⟩ = false := by unfold Boxed2 at h; simp [World.frozen?, h]
theorem Boxed2.new (w : World) (a b : Value) (t : TypeId) : Boxed2 (w.alloc (.cells #[a, b] t)) w.heap.size a b t := World.alloc_heap_new w _
theorem Boxed2.alloc {W : World} {B : Nat} {a b : Value} {t : TypeId} (h : Boxed2 W B a b t) (o : Obj) : Boxed2 (W.alloc o) B a b t := h.kept (World.grownBy_alloc W o none) (fun r e => by cases e)
theorem Boxed2.set0 {W : World} {B : Nat} {a b : Value} {t : TypeId} (v : Value) (h : Boxed2 W B a b t) : Boxed2 (W.setCell ⟨B, 0, none⟩ v) B v b t := by
  unfold Boxed2 at *
  rw [Lib.heap_setCell_same h]
  rfl
theorem Boxed2.set1 {W : World} {B : Nat} {a b : Value} {t : TypeId} (v : Value) (h : Boxed2 W B a b t) : Boxed2 (W.setCell ⟨B, 1, none⟩ v) B a v t := by
  unfold Boxed2 at *
  rw [Lib.heap_setCell_same h]
  rfl
theorem Boxed2.set {W : World} {B : Nat} {a b : Value} {t : TypeId} (v0 v1 : Value) (h : Boxed2 W B a b t) : Boxed2 ((W.setCell ⟨B, 0, none⟩ v0).setCell ⟨B, 1, none⟩ v1) B v0 v1 t := (h.set0 v0).set1 v1
theorem Boxed2.setOther {W : World} {B : Nat} {a b : Value} {t : TypeId} (h : Boxed2 W B a b t) {C i : Nat} (v : Value) (hne : B ≠ C) : Boxed2 (W.setCell ⟨C, i, none⟩ v) B a b t := by
  unfold Boxed2 at *
  rw [Below.heap_setCell _ _ _ _ hne]
  exact h
theorem Boxed2.cellAt {W : World} {B i : Nat} {a b : Value} {t : TypeId} (h : Boxed2 W B a b t) : W.cell? ⟨B, i, none⟩ = #[a, b][i]? := by unfold Boxed2 at h; simp [World.cell?, h]

/-- Words lie elsewhere than a number's variable. -/
theorem Rd.box {W : World} {p : Option Addr} {n : Nat} {xs : List Nat} (h : Rd .u64 W p n xs) {B i : Nat} {neg : Bool} {q : Option Addr} {k c : Nat} {t : TypeId} (hb : Boxed2 W B (.bool neg) (.slice q k c) t) (v : Value) : Rd .u64 (W.setCell ⟨B, i, none⟩ v) p n xs := by
  refine ⟨h.1, fun j hj => ?_⟩
  obtain ⟨b', off, hp, hlt, hc⟩ := h.2 j hj
  refine ⟨b', off, hp, by simpa using hlt, ?_⟩
  rw [World.cell?_setCell_other _ _ _ _ (fun e => ?_)]
  · exact hc
  · cases e
    rw [hb.cellAt] at hc
    match off + j, hc with
    | 0, hc => simp at hc
    | 1, hc => simp at hc
    | k + 2, hc => simp at hc

theorem cell_alloc {W : World} {a : Addr} {v : Value} {o : Obj} (h : W.cell? a = some v) : (W.alloc o).cell? a = some v := by
  rw [World.cell?_alloc_some _ _ _ (by rw [h]; rfl)]; exact h

theorem cell_call {W W' : World} {a : Addr} {v : Value} (hb : Below W.heap.size W W') (h : W.cell? a = some v) : W'.cell? a = some v := (hb.cell (World.block_lt_of_cell? _ _ h)).trans h

/-- A row of numbers. -/
def Nums (w : World) (a : Option Addr) (zs : List Int) (L : Nat) : Prop :=
  ∀ i z, zs[i]? = some z → ∃ b off neg p n c xs, a = some ⟨b, off, none⟩ ∧ b < w.heap.size ∧ w.cell? ⟨b, off + i * 2, none⟩ = some (.bool neg) ∧ w.cell? ⟨b, off + i * 2 + 1, none⟩ = some (.slice p n c) ∧ NumIs w neg p n c xs z L

theorem Nums.below {w w' : World} {a : Option Addr} {zs : List Int} {L : Nat} (h : Nums w a zs L) (hb : Below w.heap.size w w') : Nums w' a zs L := by
  intro i z hz
  obtain ⟨b, off, neg, p, n, c, xs, ha, hlt, h0, h1, hn⟩ := h i z hz
  exact ⟨b, off, neg, p, n, c, xs, ha, Nat.lt_of_lt_of_le hlt hb.size, (hb.cell (p := ⟨b, _, none⟩) hlt).trans h0, (hb.cell (p := ⟨b, _, none⟩) hlt).trans h1, hn.below hb⟩

def sumZ (zs : List Int) : Int := zs.foldl (· + ·) 0
theorem sumZ_snoc (zs : List Int) (z : Int) : sumZ (zs ++ [z]) = sumZ zs + z := by simp [sumZ]

set_option maxHeartbeats 1000000 in
theorem sum_any (a : Option Addr) (k c : Nat) (zs : List Int) (L : Nat) (w : World) (hl : zs.length = k) (hk : k ≤ 1000000) (hL : L ≤ 100000000) (hz : Nums w a zs L) :
    Calls Tryd.prog 49 #[.slice a k c] w (NumV w (sumZ zs) (L + k)) := by
  have hb0 : Below w.heap.size w ((w.alloc (.cells #[.bool false, .slice none 0 0] 79)).alloc (.cells #[.bool false, .slice none 0 0] 79)) :=
    ((Below.refl _ w).alloc (Nat.le_refl _) _).alloc (by simp) _
  have y0 : w.heap.size + 1 < ((w.alloc (.cells #[.bool false, .slice none 0 0] 79)).alloc (.cells #[.bool false, .slice none 0 0] 79)).heap.size := by simp
  have HL := Lib.hid hl
  have HZ := Lib.hid hz
  clear hl hz
  go_enter Tryd.func49, Tryd.ntmps49
  go_wp2
  go_loopw [9] (fun i wr => ∃ (j : Nat) (neg : Bool) (p : Option Addr) (n d : Nat) (xs : List Nat), j ≤ k ∧ i = .int .i64 j ∧ Boxed2 wr (w.heap.size + 1) (.bool neg) (.slice p n d) 79 ∧ Boxed2 wr w.heap.size (.bool false) (.slice none 0 0) 79
      ∧ Hid (NumIs wr neg p n d xs (sumZ (zs.take j)) (L + j)) ∧ Below w.heap.size w wr) (fun i _ => k - (intOf i).toNat)
  case atStart =>
    refine ⟨0, false, none, 0, 0, [], Nat.zero_le _, rfl, ?_, (Boxed2.new w _ _ _).alloc _, ?_, hb0⟩
    · have := Boxed2.new (w.alloc (.cells #[.bool false, .slice none 0 0] 79)) (.bool false) (.slice none 0 0) 79
      simpa using this
    · exact { rd := Rd.nil _ _ _, cap := Nat.le_refl _, len := Nat.zero_le _, cn := Cn.nil _, pos := (by intro h; cases h), val := rfl }
  case round =>
    obtain ⟨j, neg, p, n, d, xs, hj, rfl, t0, r0, hn, hbel⟩ := hrel
    have hlt0 := t0.lt
    by_cases hlt : j < k
    · obtain ⟨b, off, neg', p', n', d', xs', rfl, hb, e0, e1, he⟩ := HZ.out j _ (List.getElem?_eq_getElem (by rw [HL.out]; exact hlt))
      have e0' := (hbel.cell (p := ⟨b, _, none⟩) hb).trans e0
      have e1' := (hbel.cell (p := ⟨b, _, none⟩) hb).trans e1
      have c0 := t0.cell0
      have c1 := t0.cell1
      have q0 := t0.frozen (i := 0)
      have q1 := t0.frozen (i := 1)
      clear e0 e1
      have hb1 : Below wr.heap.size wr (wr.alloc (.cells #[.bool neg', .slice p' n' d'] 79)) := (Below.refl _ _).alloc (Nat.le_refl _) _
      have hE := (he.below hbel).below hb1
      go_wp2_with (go_at_call 70; refine (plus_num (hn.out.below hb1) hE (by omega) (by omega)).mono ?_; rintro e w2 ⟨neg2, p2, n2, d2, xs2, rfl, hx2, hb2⟩; have t2 := (t0.alloc (.cells #[.bool neg', .slice p' n' d'] 79)).below hb2 (by simp; omega); have c20 := t2.cell0; have c21 := t2.cell1; have q20 := t2.frozen (i := 0); have q21 := t2.frozen (i := 1))
      have r2 := (r0.alloc (.cells #[.bool neg', .slice p' n' d'] 79)).below hb2 (by simp; omega)
      have hs2 := hb2.size
      simp only [World.size_alloc] at hs2
      go_roundw
      case rel =>
        refine ⟨j + 1, neg2, p2, n2, d2, xs2, by omega, by go_num, t2.set _ _, (r2.setOther _ (by omega)).setOther _ (by omega), ?_, ?_⟩
        · have hjl : j < zs.length := by rw [HL.out]; exact hlt
          have e1 : sumZ (zs.take (j + 1)) = sumZ (zs.take j) + zs[j] := by rw [List.take_succ_eq_append_getElem (by rw [HL.out]; exact hlt), sumZ_snoc]
          have e2 : max (L + j) L + 1 = L + (j + 1) := by omega
          rw [← e1, e2] at hx2
          exact { hx2 with rd := (hx2.rd.box t2 _).box (t2.set0 _) _ }
        · exact ((((hbel.alloc hbel.size _).trans (hb2.mono (by simp; have := hbel.size; omega))).setCell (by simp) _).setCell (by simp) _)
      case measure => simp [intOf]; omega
    · obtain rfl : j = k := by omega
      have c0 := t0.cell0
      have c1 := t0.cell1
      have d0 := r0.cell0
      have d1 := r0.cell1
      have q0 := r0.frozen (i := 0)
      have q1 := r0.frozen (i := 1)
      go_wp2
      have r1 := r0.set (.bool neg) (.slice p n d)
      have z0 := r1.cell0
      have z1 := r1.cell1
      refine bodyPost_ret (v := .agg #[.bool neg, .slice p n d]) (by simp [results, Tryd.results49, go_sem, z0, z1]) rfl ⟨neg, p, n, d, xs, rfl, ?_, (hbel.setCell (by simp) _).setCell (by simp) _⟩
      have hn' := hn.out
      rw [List.take_of_length_le (by rw [HL.out]; exact Nat.le_refl _)] at hn'
      exact { hn' with rd := (hn'.rd.box r0 _).box (r0.set0 _) _ }

set_option maxHeartbeats 400000 in
theorem one_any (w : World) : Calls Tryd.prog 79 #[] w (NumV w 1 1) := by
  go_enter Tryd.func79, Tryd.ntmps79
  go_wp2
  have h0 : Boxed2 ((w.alloc (.cells #[.bool false, .slice (some ⟨w.heap.size + 1, 0, none⟩) 1 1] 79)).alloc (.cells #[.int .u64 1] 73)) w.heap.size (.bool false) (.slice (some ⟨w.heap.size + 1, 0, none⟩) 1 1) 79 := (Boxed2.new w _ _ _).alloc _
  have z0 := h0.cell0
  have z1 := h0.cell1
  refine bodyPost_ret (v := .agg #[.bool false, .slice (some ⟨w.heap.size + 1, 0, none⟩) 1 1]) (by simp [results, Tryd.results79, go_sem, z0, z1]) rfl ⟨false, _, 1, 1, [1], rfl, ?_, ((Below.refl _ w).alloc (Nat.le_refl _) _).alloc (by simp) _⟩
  refine { rd := ⟨rfl, fun i hi => ⟨w.heap.size + 1, 0, rfl, by simp, ?_⟩⟩, cap := Nat.le_refl _, len := Nat.le_refl _, cn := ⟨by intro x hx; simp at hx; subst hx; decide, by simp [Tp]⟩, pos := (by intro h; cases h), val := by decide }
  obtain rfl : i = 0 := by omega
  simp [go_sem]

end Go.Proofs.YtapfkinpdinbgaaDoor
