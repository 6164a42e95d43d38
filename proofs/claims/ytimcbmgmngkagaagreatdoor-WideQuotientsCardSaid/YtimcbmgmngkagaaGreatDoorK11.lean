/-
  Long division as on paper: plain; Long division: divideLong; Words divided by words: all.
-/
import Derived.Laws.CopyOwn
import Derived.Deep.RegionHeld3
import Derived.Test.YtimcbmgmngkagaaGreatDoorK1
import Derived.Test.YtimcbmgmngkagaaGreatDoorK2
import Derived.Test.YtimcbmgmngkagaaGreatDoorK3
import Derived.Test.YtimcbmgmngkagaaGreatDoorK4
import Derived.Test.YtimcbmgmngkagaaGreatDoorK5
import Derived.Test.YtimcbmgmngkagaaGreatDoorK8
import Derived.Test.YtimcbmgmngkagaaGreatDoorK9
import Derived.Test.YtimcbmgmngkagaaGreatDoorK10
namespace Go.Proofs.YtimcbmgmngkagaaGreatDoor

/-- Between two rounds: the words of the quotient from place a on are found; what is left above place a is less than the divisor. -/
structure LongI (X f V n m : Nat) (ls qs : List Nat) (a : Nat) : Prop where
  ll : ls.length = n + 1
  ql : qs.length = n - m + 1
  gl : Dg BW ls
  gq : Dg BW qs
  val : X * f = dv BW ls + V * dv BW qs
  top : dv BW (ls.drop a) < V
  low : ∀ i, i < a → qs[i]?.getD 0 = 0

theorem drop_three (ls : List Nat) (a k : Nat) : ls = ls.take a ++ (ls.drop a).take k ++ ls.drop (a + k) := by
  rw [List.append_assoc, ← List.drop_drop, List.take_append_drop, List.take_append_drop]

theorem dv_zero_above {ls : List Nat} {k : Nat} (h : dv BW ls < BW ^ k) : dv BW (ls.drop k) = 0 ∧ dv BW (ls.take k) = dv BW ls := by
  by_cases hk : k ≤ ls.length
  · have e := dv_take_drop BW ls k hk
    rcases Nat.eq_zero_or_pos (dv BW (ls.drop k)) with h0 | h0
    · rw [h0] at e ⊢; simp at e; exact ⟨rfl, e.symm⟩
    · have : BW ^ k ≤ BW ^ k * dv BW (ls.drop k) := Nat.le_mul_of_pos_right _ h0
      omega
  · rw [List.drop_of_length_le (by omega), List.take_of_length_le (by omega)]
    exact ⟨rfl, rfl⟩

/-- The window of a round. -/
theorem LongI.window {X f V n m : Nat} {ls qs : List Nat} {a : Nat} (h : LongI X f V n m ls qs (a + 1)) (hV : V < BW ^ m) (ha : a + 1 ≤ n - m + 1) (hm : m ≤ n) :
    ((ls.drop a).take (m + 1)).length = m + 1 ∧ dv BW ((ls.drop a).take (m + 1)) < V * BW ∧ dv BW (ls.drop (a + (m + 1))) = 0 ∧ dv BW ls = dv BW (ls.take a) + BW ^ a * dv BW ((ls.drop a).take (m + 1)) := by
  have hal : a < ls.length := by rw [h.ll]; omega
  have e1 : dv BW (ls.drop a) = ls[a] + BW * dv BW (ls.drop (a + 1)) := by rw [List.drop_eq_getElem_cons hal]; rfl
  have hla : ls[a] < BW := h.gl _ (List.getElem_mem hal)
  have htop := h.top
  have e2 : dv BW (ls.drop a) < V * BW := by
    have k1 : dv BW (ls.drop (a + 1)) + 1 ≤ V := htop
    have k2 : BW * (dv BW (ls.drop (a + 1)) + 1) ≤ BW * V := Nat.mul_le_mul_left BW k1
    rw [Nat.mul_add, Nat.mul_one] at k2
    rw [Nat.mul_comm V BW]
    omega
  have e3 : dv BW (ls.drop a) < BW ^ (m + 1) := by
    have : V * BW ≤ BW ^ m * BW := Nat.mul_le_mul_right BW (Nat.le_of_lt hV)
    exact (Nat.pow_succ (n := BW) (m := m)) ▸ Nat.lt_of_lt_of_le e2 this
  obtain ⟨z1, z2⟩ := dv_zero_above e3
  rw [List.drop_drop] at z1
  have e4 := dv_take_drop BW ls a (Nat.le_of_lt hal)
  have hll := h.ll
  refine ⟨?_, by rw [z2]; exact e2, z1, by rw [z2]; exact e4⟩
  have hd : (ls.drop a).length = n + 1 - a := by rw [List.length_drop, hll]
  rw [List.length_take, hd]
  omega

/-- A round. -/
theorem LongI.step {X f V n m : Nat} {ls qs zs : List Nat} {a q : Nat} (h : LongI X f V n m ls qs (a + 1)) (hV : V < BW ^ m) (ha : a + 1 ≤ n - m + 1) (hm : m ≤ n)
    (hzl : zs.length = m + 1) (gz : Dg BW zs) (hz : dv BW zs + q * V = dv BW ((ls.drop a).take (m + 1))) (hzV : dv BW zs < V) (hq : q < BW) :
    LongI X f V n m (ls.take a ++ zs ++ ls.drop (a + (m + 1))) (qs.set a q) a := by
  obtain ⟨w1, w2, w3, w4⟩ := h.window hV ha hm
  have hal : a < ls.length := by rw [h.ll]; omega
  have htl : (ls.take a).length = a := by rw [List.length_take]; omega
  have hqa : a < qs.length := by rw [h.ql]; omega
  have d1 : dv BW (ls.take a ++ zs ++ ls.drop (a + (m + 1))) = dv BW (ls.take a) + BW ^ a * dv BW zs := by
    rw [dv_append, dv_append, w3, htl]; simp
  have d2 : dv BW (qs.set a q) = dv BW qs + BW ^ a * q := by
    have g := dv_set BW qs a q hqa
    rw [h.low a (by omega), Nat.mul_zero, Nat.add_zero] at g
    exact g
  refine { ll := ?_, ql := by rw [List.length_set]; exact h.ql, gl := ?_, gq := h.gq.set _ hq, val := ?_, top := ?_, low := fun i hi => ?_ }
  · rw [List.length_append, List.length_append, htl, hzl, List.length_drop, h.ll]; omega
  · exact Dg.append (Dg.append (h.gl.take a) gz) (h.gl.drop _)
  · rw [h.val, d1, d2, w4, ← hz]
    grind
  · rw [List.append_assoc, List.drop_append_of_le_length (by omega), List.drop_of_length_le (by omega), List.nil_append, dv_append, w3]
    simpa using hzV
  · rw [set_get_other _ _ _ _ (by omega)]; exact h.low i (by omega)

/-- Which word of the quotient, and what is left. -/
theorem round_kept {U V g b m : Nat} {zs : List Nat} (hz : dv BW zs + g * V = U + BW ^ (m + 1) * b) (hg1 : g * V < U + V) (hg2 : U < (g + 1) * V) (hb : b = 0) : dv BW zs + g * V = U ∧ dv BW zs < V := by
  subst hb
  rw [Nat.mul_zero, Nat.add_zero] at hz
  rw [Nat.add_mul, Nat.one_mul] at hg2
  omega
theorem round_back {U V g b c m : Nat} {zs ys : List Nat} (gz : Dg BW zs) (gy : Dg BW ys) (hzl : zs.length = m + 1) (hyl : ys.length = m + 1) (hz : dv BW zs + g * V = U + BW ^ (m + 1) * b) (hg1 : g * V < U + V) (hb : b = 1) (hy : dv BW ys + BW ^ (m + 1) * c = dv BW zs + V) (hc : c ≤ 1) (hV : V < BW ^ (m + 1)) :
    1 ≤ g ∧ dv BW ys + (g - 1) * V = U ∧ dv BW ys < V := by
  subst hb
  have l1 := dv_lt gz
  have l2 := dv_lt gy
  rw [hzl] at l1
  rw [hyl] at l2
  rw [Nat.mul_one] at hz
  have hg0 : 1 ≤ g := by
    rcases Nat.eq_zero_or_pos g with h | h
    · subst h; omega
    · exact h
  obtain ⟨k, rfl⟩ : ∃ k, g = k + 1 := ⟨g - 1, by omega⟩
  rw [Nat.add_sub_cancel]
  rw [Nat.add_mul, Nat.one_mul] at hz hg1
  have hc1 : c = 1 := by
    rcases Nat.lt_or_ge c 1 with h | h
    · have : c = 0 := by omega
      subst this
      rw [Nat.mul_zero, Nat.add_zero] at hy
      omega
    · omega
  subst hc1
  rw [Nat.mul_one] at hy
  exact ⟨by omega, by omega, by omega⟩

/-- The factor that makes the divisor's highest word great. -/
theorem factor_ok {ys : List Nat} {m f t : Nat} (gy : Dg BW ys) (hm : ys.length = m + 1) (ht : ys[m]?.getD 0 = t) (hp : 1 ≤ t) (hf : BW / (t + 1) = f) :
    1 ≤ f ∧ f < BW ∧ BW ^ m * (t * f) ≤ dv BW ys * f ∧ dv BW ys * f < BW ^ (m + 1) ∧ BW ≤ 2 * (t * f) := by
  have htB : t < BW := by rw [← ht]; exact gy.get (by decide) m
  have e := dv_take_succ BW ys m
  rw [List.take_of_length_le (by omega), ht] at e
  have lo := dv_lt (gy.take m)
  rw [List.length_take, Nat.min_eq_left (by omega)] at lo
  have d0 := Nat.div_add_mod BW (t + 1)
  have d1 := Nat.mod_lt BW (show 0 < t + 1 by omega)
  rw [hf] at d0
  generalize BW % (t + 1) = r at d0 d1
  have hev : BW = 2 * 500000000 := by decide
  have p1 : BW ^ (m + 1) = BW ^ m * BW := Nat.pow_succ ..
  generalize BW ^ m = P at *
  generalize dv BW (ys.take m) = L at *
  generalize dv BW ys = Y at *
  rw [Nat.add_mul, Nat.one_mul] at d0
  have hf1 : 1 ≤ f := by
    rcases Nat.eq_zero_or_pos f with h | h
    · subst h; rw [Nat.mul_zero] at d0; omega
    · exact h
  have k1 : f ≤ t * f := Nat.le_mul_of_pos_left f hp
  refine ⟨hf1, by omega, ?_, ?_, ?_⟩
  · have : P * t * f ≤ Y * f := Nat.mul_le_mul_right f (by omega)
    rw [Nat.mul_assoc] at this
    exact this
  · have h1 : Y < P * (t + 1) := by rw [Nat.mul_add, Nat.mul_one]; omega
    have h2 : Y * f < P * (t + 1) * f := Nat.mul_lt_mul_of_pos_right h1 hf1
    have h3 : P * (t + 1) * f ≤ P * BW := by rw [Nat.mul_assoc]; exact Nat.mul_le_mul_left P (by rw [Nat.add_mul, Nat.one_mul]; omega)
    rw [p1]
    exact Nat.lt_of_lt_of_le h2 h3
  · rcases Nat.lt_or_ge f 2 with h | h
    · obtain rfl : f = 1 := by omega
      omega
    · rcases Nat.lt_or_ge t 2 with h' | h'
      · obtain rfl : t = 1 := by omega
        omega
      · have k2 : t + f ≤ t * f := by
          obtain ⟨a, rfl⟩ : ∃ a, t = a + 2 := ⟨t - 2, by omega⟩
          obtain ⟨b, rfl⟩ : ∃ b, f = b + 2 := ⟨f - 2, by omega⟩
          have : (a + 2) * (b + 2) = a * b + 2 * a + 2 * b + 4 := by grind
          omega
        omega

theorem factor_top {vs : List Nat} {m t : Nat} (gv : Cn BW vs) (h1 : dv BW vs < BW ^ (m + 1)) (h2 : BW ^ m * t ≤ dv BW vs) (ht : 1 ≤ t) : vs.length = m + 1 ∧ t ≤ vs[m]?.getD 0 := by
  have hB : 0 < BW ^ m := Nat.pow_pos (by decide)
  have hl := gv.length_le (by decide) h1
  have hg : m + 1 ≤ vs.length := by
    rcases Nat.lt_or_ge vs.length (m + 1) with h | h
    · exfalso
      have k1 := dv_lt gv.1
      have k2 : BW ^ vs.length ≤ BW ^ m := Nat.pow_le_pow_right (by decide) (by omega)
      have k3 : BW ^ m * 1 ≤ BW ^ m * t := Nat.mul_le_mul_left _ ht
      rw [Nat.mul_one] at k3
      omega
    · exact h
  have hlen : vs.length = m + 1 := by omega
  refine ⟨hlen, ?_⟩
  have e := dv_take_succ BW vs m
  rw [List.take_of_length_le (by omega)] at e
  have lo := dv_lt (gv.1.take m)
  rw [List.length_take, Nat.min_eq_left (by omega)] at lo
  generalize vs[m]?.getD 0 = u at *
  rcases Nat.lt_or_ge u t with h | h
  · exfalso
    have k : BW ^ m * (u + 1) ≤ BW ^ m * t := Nat.mul_le_mul_left _ h
    rw [Nat.mul_add, Nat.mul_one] at k
    omega
  · exact h

/-- Ahead of the first round. -/
theorem LongI.start {X Y f n m : Nat} {xs us : List Nat} (hXl : xs.length = n) (hm : m + 1 ≤ n) (gx : Dg BW xs) (gu : Dg BW us) (hX : dv BW xs = X) (hu : dv BW us = X * f) (hul : us.length ≤ n + 1) (hf : 1 ≤ f) (hfB : f < BW) (hV : BW ^ m * f ≤ Y * f) :
    LongI X f (Y * f) n (m + 1) (us ++ List.replicate (n + 1 - us.length) 0) (List.replicate (n - (m + 1) + 1) 0) (n - (m + 1) + 1) := by
  have hd : dv BW (us ++ List.replicate (n + 1 - us.length) 0) = X * f := by
    rw [dv_append, dv_replicate, Nat.mul_zero, Nat.add_zero, hu]
  refine { ll := by rw [List.length_append, List.length_replicate]; omega, ql := List.length_replicate, gl := Dg.append gu (Dg.replicate (by decide) _), gq := Dg.replicate (by decide) _, val := by rw [hd, dv_replicate, Nat.mul_zero, Nat.add_zero], top := ?_, low := fun i hi => ?_ }
  · have e := dv_take_drop BW (us ++ List.replicate (n + 1 - us.length) 0) (n - (m + 1) + 1) (by rw [List.length_append, List.length_replicate]; omega)
    rw [hd] at e
    have lx := dv_lt gx
    rw [hXl, hX] at lx
    have hpow : BW ^ n = BW ^ (n - (m + 1) + 1) * BW ^ m := by rw [← Nat.pow_add]; congr 1; omega
    generalize dv BW ((us ++ List.replicate (n + 1 - us.length) 0).drop (n - (m + 1) + 1)) = D at *
    rcases Nat.lt_or_ge D (Y * f) with h | h
    · exact h
    · exfalso
      have k1 : BW ^ (n - (m + 1) + 1) * (BW ^ m * f) ≤ BW ^ (n - (m + 1) + 1) * D := Nat.mul_le_mul_left _ (Nat.le_trans hV h)
      have k2 : X * f < BW ^ n * f := Nat.mul_lt_mul_of_pos_right lx hf
      rw [hpow, Nat.mul_assoc] at k2
      omega
  · rw [List.getElem?_replicate]; split <;> rfl

/-- Behind the last round. -/
theorem LongI.done {X Y f n m : Nat} {ls qs rs : List Nat} {r : Nat} (h : LongI X f (Y * f) n m ls qs 0) (hf : 1 ≤ f) (hr : r < f) (hrs : dv BW ls = dv BW rs * f + r) : X = Y * dv BW qs + dv BW rs ∧ dv BW rs < Y := by
  have ht := h.top
  have hv := h.val
  rw [List.drop_zero] at ht
  rw [hrs] at ht hv
  have e1 : f * X = f * (dv BW rs + Y * dv BW qs) + r := by
    rw [Nat.mul_comm f X, hv, Nat.mul_add, Nat.mul_comm f (dv BW rs), Nat.mul_assoc Y f, Nat.mul_comm Y (f * dv BW qs), Nat.mul_comm Y (dv BW qs), Nat.mul_assoc]
    omega
  have e2 : X = dv BW rs + Y * dv BW qs := by
    have q1 : (f * X) / f = X := Nat.mul_div_cancel_left X (by omega)
    have q2 : (f * (dv BW rs + Y * dv BW qs) + r) / f = dv BW rs + Y * dv BW qs := by
      rw [Nat.add_comm, Nat.add_mul_div_left _ _ (by omega), Nat.div_eq_of_lt hr, Nat.zero_add]
    rw [← q1, e1, q2]
  refine ⟨by omega, ?_⟩
  exact Nat.lt_of_mul_lt_mul_right (a := f) (by omega)

end Go.Proofs.YtimcbmgmngkagaaGreatDoor

namespace Go.Proofs.YtimcbmgmngkagaaGreatDoor
open Go.RowKit Go.Shelf
attribute [local go_sem] Oper.semAt_some

/-- What holds between two rounds. -/
def DlI (w : World) (B D E : Nat) (pv : Option Addr) (n m cv K f X V : Nat) (vs : List Nat) (k : Nat) (W : World) : Prop :=
  ∃ ls qs, Hid (LongI X f V n m ls qs (K - k)) ∧ Boxed W B 76 (.slice (some ⟨E, 0, none⟩) K K) ∧ Boxed W (B + 1) 3 (.int .i64 (m : Int)) ∧ Rd .u64 W (some ⟨B + 1 + 1, 0, none⟩) 1 [f]
    ∧ Boxed W D 76 (.slice pv m cv) ∧ Boxed W (D + 1 + 1) 76 (.slice (some ⟨D + 1, 0, none⟩) (n + 1) (n + 1)) ∧ Rd .u64 W pv m vs ∧ Own .u64 117 W (D + 1) ls ∧ Own .u64 117 W E qs ∧ Below w.heap.size w W ∧ E + 1 < W.heap.size

theorem rd_setRow_ne {k : IntKind} {w : World} {p : Option Addr} {n E i : Nat} {xs : List Nat} {v : Value} (h : Rd k w p n xs) (hne : ∀ b o, p = some ⟨b, o, none⟩ → b ≠ E) : Rd k (w.setCell ⟨E, i, none⟩ v) p n xs := by
  refine ⟨h.1, fun j hj => ?_⟩
  obtain ⟨b, o, e, hl, hc⟩ := h.2 j hj
  exact ⟨b, o, e, by simpa using hl, (World.cell?_of_block (w := w) (Below.heap_setCell _ _ _ _ (hne b o e))).trans hc⟩

theorem Own.seg {k : IntKind} {e : TypeId} {w : World} {B at_ m : Nat} {pre z0 post : List Nat} (h : Own k e w B (pre ++ z0 ++ post)) (hat : pre.length = at_) (hm : z0.length = m) : Rd k w (some ⟨B, at_, none⟩) m z0 := by
  refine ⟨hm, fun j hj => ⟨B, at_, rfl, h.lt, ?_⟩⟩
  have e := h.cell (at_ + j) (by simp; omega)
  rw [List.append_assoc, List.getElem?_append_right (by omega), hat, Nat.add_sub_cancel_left, List.getElem?_append_left (by omega)] at e
  exact e

theorem Rd.keptN {k : IntKind} {A A' : World} {p : Option Addr} {n : Nat} {xs : List Nat} (h : Rd k A p n xs) {row : Option Nat} (hg : A.grownBy A' row) (hr : ∀ r, row = some r → ∃ o : Obj, A.heap[r]? = some o ∧ o.isCells = false) : Rd k A' p n xs := by
  refine ⟨h.1, fun i hi => ?_⟩
  obtain ⟨b, o, e, hl, hc⟩ := h.2 i hi
  refine ⟨b, o, e, Nat.lt_of_lt_of_le hl hg.size, ?_⟩
  refine (World.cell?_of_block (w := A) (hg.block b hl (fun e' => ?_))).trans hc
  obtain ⟨o', ho, hcl⟩ := hr b e'.symm
  simp only [World.cell?, ho] at hc
  cases o' <;> simp_all [Obj.isCells]

/-- A round is done: the word of the quotient is stored. -/
theorem dl_close {w : World} {B D E : Nat} {pv : Option Addr} {n m cv K f X V : Nat} {vs ls' qs : List Nat} {k i q : Nat} {W W2 : World} (hBD : B + 1 + 1 < D) (hDE : D + 1 + 1 < E) (hwB : w.heap.size ≤ B)
    (hvE : ∀ b o, pv = some ⟨b, o, none⟩ → b ≠ E) (hvD : ∀ b o, pv = some ⟨b, o, none⟩ → b ≠ D + 1)
    (h2 : Boxed W B 76 (.slice (some ⟨E, 0, none⟩) K K)) (h3 : Boxed W (B + 1) 3 (.int .i64 (m : Int))) (h4 : Rd .u64 W (some ⟨B + 1 + 1, 0, none⟩) 1 [f])
    (h5 : Boxed W D 76 (.slice pv m cv)) (h6 : Boxed W (D + 1 + 1) 76 (.slice (some ⟨D + 1, 0, none⟩) (n + 1) (n + 1))) (h7 : Rd .u64 W pv m vs) (h8 : ∃ ls, Own .u64 117 W (D + 1) ls) (h9 : Own .u64 117 W E qs) (h10 : Below w.heap.size w W) (h11 : E + 1 < W.heap.size)
    (hg : W.grownBy W2 (some (D + 1))) (ho : Own .u64 117 W2 (D + 1) ls') (hl : LongI X f V n m ls' (qs.set i q) (K - (k + 1))) (hi : i < K) (hql : qs.length = K) :
    KeepsOthers W (W2.setCell ⟨E, i, none⟩ (.int .u64 (q : Int))) ∧ KeepsRow (fun b => b = E + 1) E 0 K W (W2.setCell ⟨E, i, none⟩ (.int .u64 (q : Int))) ∧ DlI w B D E pv n m cv K f X V vs (k + 1) (W2.setCell ⟨E, i, none⟩ (.int .u64 (q : Int))) := by
  have e9 : Own .u64 117 W2 E qs := by
    unfold Own at h9 ⊢; rw [hg.block E (by omega) (by simp; omega)]; exact h9
  have e9' := e9.set i q
  refine ⟨(KeepsOthers.of_grownBy hg ?_).trans (KeepsOthers.setCell _ _ _), ⟨?_, fun j hj _ => ?_⟩, ls', qs.set i q, hl, ?_, ?_, ?_, ?_, ?_, ?_, ?_, e9', ?_, ?_⟩
  · rintro j o e hj
    cases e
    obtain ⟨ls, h8⟩ := h8
    unfold Own at h8
    rw [h8] at hj
    cases hj
    rfl
  · rintro b rfl
    rw [Below.heap_setCell _ _ _ _ (by simp)]
    exact hg.block _ h11 (by simp; omega)
  · exact ⟨_, by rw [Nat.zero_add]; exact e9'.cell j (by rw [List.length_set, hql]; exact hj)⟩
  · exact Boxed.setOther (Boxed.kept h2 hg (by simp; omega)) _ _ (by simp; omega)
  · exact Boxed.setOther (Boxed.kept h3 hg (by simp; omega)) _ _ (by simp; omega)
  · exact rd_setRow_ne (h4.grownB (fun b o e => by cases e; omega) hg) (fun b o e => by cases e; omega)
  · exact Boxed.setOther (Boxed.kept h5 hg (by simp)) _ _ (by simp; omega)
  · exact Boxed.setOther (Boxed.kept h6 hg (by simp)) _ _ (by simp; omega)
  · exact rd_setRow_ne (h7.grownB hvD hg) hvE
  · exact Own.setOther ho _ _ (by simp; omega)
  · exact (h10.grown hg h10.size (fun k e => by cases e; omega)).setCell (by simp; omega) _
  · have := hg.size; simp; omega

/-- What every order of copy(left, multiplyWords(x, factor)) keeps. -/
def CpI (w3 : World) (tm : Value → Value → Value → Value → Value → Act) (D n X : Nat) (VL VX VF : Value) (L : Nat → Bool) (x : Act) (w : World) : Prop :=
  ∃ v30 v31 v32 v33 v34 ls, x = tm v30 v31 v32 v33 v34 ∧ w3.grownBy w (some D) ∧ Own .u64 117 w D ls ∧ (L 0 = true → v30 = VL) ∧ (L 1 = true → v31 = VX) ∧ (L 2 = true → v32 = VF)
    ∧ (L 3 = true → L 4 = false → ∃ pu nu cu us, v33 = .slice pu nu cu ∧ Rd .u64 w pu nu us ∧ Cn BW us ∧ dv BW us = X)
    ∧ (L 4 = true → L 3 = true) ∧ (L 4 = false → ls = List.replicate (n + 1) 0)
    ∧ (L 4 = true → ∃ us, Cn BW us ∧ dv BW us = X ∧ us.length ≤ n + 1 ∧ ls = us ++ List.replicate (n + 1 - us.length) 0)

theorem rd_ne {k : IntKind} {w : World} {p : Option Addr} {n D : Nat} {xs : List Nat} (h : Rd k w p n xs) (hn : 1 ≤ n) (hD : w.heap.size ≤ D) : ∀ b o, p = some ⟨b, o, none⟩ → b ≠ D := by
  intro b o e
  obtain ⟨b', o', e', hl, _⟩ := h.2 0 hn
  rw [e] at e'
  cases e'
  omega

theorem grown_any {w w' : World} (h : Below w.heap.size w w') (row : Option Nat) : w.grownBy w' row := ⟨h.os, h.tape, h.output, h.size, fun k hk _ => h.block k hk⟩

set_option maxRecDepth 100000 in
set_option maxHeartbeats 4000000 in
theorem divideLong_any (p q : Option Addr) (n c m d : Nat) (xs ys : List Nat) (w : World) (hn : n ≤ 1000000) (hm : 2 ≤ m) (hmn : m ≤ n) (hx : Rd .u64 w p n xs) (hy : Rd .u64 w q m ys) (gx : Cn BW xs) (gy : Cn BW ys) :
    Calls Tryz.prog 149 #[.slice p n c, .slice q m d] w (DivOut w xs ys) := by
  obtain ⟨b1, o1, rfl, hl1, hd1⟩ := hy.2 (m - 1) (by omega)
  obtain ⟨M1, hM1⟩ : ∃ M1, m - 1 = M1 := ⟨_, rfl⟩
  rw [hM1] at hd1
  have hi1 : (m : Int) - 1 = (M1 : Int) := by omega
  have hM : m = M1 + 1 := by omega
  obtain ⟨t, ht⟩ : ∃ t, ys[M1]?.getD 0 = t := ⟨_, rfl⟩
  rw [ht] at hd1
  have htp : 1 ≤ t := by
    rcases Nat.eq_zero_or_pos t with h | h
    · exfalso
      have e := gy.2
      unfold Tp at e
      have hl := hy.1.trans hM
      rw [List.getLast?_eq_getElem?, hl, Nat.add_sub_cancel] at e
      subst h
      rw [List.getElem?_eq_getElem (by omega)] at ht e
      exact e (by rw [← ht]; rfl)
    · exact h
  have htB : t < 1000000000 := by rw [← ht]; exact gy.1.get (by decide) M1
  obtain ⟨f, hf⟩ : ∃ f, BW / (t + 1) = f := ⟨_, rfl⟩
  obtain ⟨f1, f2, f3, f4, f5⟩ := factor_ok gy.1 (hy.1.trans hM) ht htp hf
  have f2' : f < 1000000000 := f2
  have hfc : (1000000000 : Int) / ((t : Int) + 1) = (f : Int) := by rw [← hf]; simp
  have ht0 : ¬ ((t : Int) + 1 = 0) := by omega
  have htp1 : (0 : Int) < (t : Int) + 1 := by omega
  have HF := Lib.hid (And.intro hf (And.intro f3 (And.intro f4 f5)))
  have HX := Lib.hid hx
  have HY := Lib.hid hy
  have HM := Lib.hid (And.intro hM hM1)
  clear hf f3 f4 f5 hx hy hM1 hM f2
  have hmk1 : ∀ w, (Instr.makeSlice 76 (.int .i64 ((n : Int) + 1)) (.int .i64 ((n : Int) + 1))).run Tryz.prog w = .ok (.slice (some ⟨w.heap.size, 0, none⟩) (n + 1) (n + 1)) (w.alloc (.cells (Go.madeCells #[.int .u64 0] (n + 1)) 117)) := fun w => mkWords (n + 1) (by omega) w
  refine (callsIn_wide (n := 6)).1 ?_
  refine callsIn_of_wp_marks Tryz.func149 rfl trivial ?_ rfl
  simp only [Tryz.ntmps149, List.size_toArray, List.length_cons, List.length_nil, Nat.reduceAdd, Nat.reduceSub, Array.replicate_succ, Array.replicate_zero, List.push_toArray, List.append_toArray, List.nil_append, List.cons_append]
  refine wpIn_wide.2 ?_
  go_wp2_with fail
  have hb0 : Below w.heap.size w (((w.alloc (Obj.cells #[Value.slice none 0 0] 76)).alloc (Obj.cells #[Value.int IntKind.i64 (m : Int)] 3)).alloc (Obj.cells #[Value.int IntKind.u64 (f : Int)] 117)) :=
    (((Below.refl _ w).alloc (Nat.le_refl _) _).alloc (by simp) _).alloc (by simp; omega) _
  have q0 := ((Boxed.new w 76 (.slice none 0 0)).alloc (Obj.cells #[Value.int IntKind.i64 (m : Int)] 3)).alloc (Obj.cells #[Value.int IntKind.u64 (f : Int)] 117)
  have q1 := (Boxed.new (w.alloc (Obj.cells #[Value.slice none 0 0] 76)) 3 (.int .i64 (m : Int))).alloc (Obj.cells #[Value.int IntKind.u64 (f : Int)] 117)
  have q2 := Boxed.new ((w.alloc (Obj.cells #[Value.slice none 0 0] 76)).alloc (Obj.cells #[Value.int IntKind.i64 (m : Int)] 3)) 117 (.int .u64 (f : Int))
  have q3 := one_word ((w.alloc (Obj.cells #[Value.slice none 0 0] 76)).alloc (Obj.cells #[Value.int IntKind.i64 (m : Int)] 3)) f
  simp only [World.size_alloc] at q1 q2 q3
  have hs0 : (((w.alloc (Obj.cells #[Value.slice none 0 0] 76)).alloc (Obj.cells #[Value.int IntKind.i64 (m : Int)] 3)).alloc (Obj.cells #[Value.int IntKind.u64 (f : Int)] 117)).heap.size = w.heap.size + 1 + 1 + 1 := by simp
  generalize (((w.alloc (Obj.cells #[Value.slice none 0 0] 76)).alloc (Obj.cells #[Value.int IntKind.i64 (m : Int)] 3)).alloc (Obj.cells #[Value.int IntKind.u64 (f : Int)] 117)) = w0 at *
  have gf1 : Dg BW [f] := by intro x hx; simp at hx; subst hx; exact f2'
  refine (multiplyWords_any _ _ m d 1 1 ys [f] w0 (by omega) (by omega) (HY.out.below hb0) q3 gy.1 gf1).mono ?_
  rintro e w1 ⟨pv, nv, cv, vs, rfl, hv, hcv, gv, hvV, hb1⟩
  dsimp only
  go_upto_region 5 with fail
  have hw1 : w.heap.size + 1 + 1 + 1 ≤ w1.heap.size := by have := hb1.size; omega
  have hb13 : Below w1.heap.size w1 (((w1.alloc (Obj.cells #[Value.slice pv nv cv] 76)).alloc (Obj.cells (Go.madeCells #[Value.int IntKind.u64 0] (n + 1)) 117)).alloc (Obj.cells #[Value.slice (some ⟨w1.heap.size + 1, 0, none⟩) (n + 1) (n + 1)] 76)) := (((Below.refl _ w1).alloc (Nat.le_refl _) _).alloc (by simp) _).alloc (by simp; omega) _
  have hb3 : Below w.heap.size w (((w1.alloc (Obj.cells #[Value.slice pv nv cv] 76)).alloc (Obj.cells (Go.madeCells #[Value.int IntKind.u64 0] (n + 1)) 117)).alloc (Obj.cells #[Value.slice (some ⟨w1.heap.size + 1, 0, none⟩) (n + 1) (n + 1)] 76)) := (hb0.trans (hb1.mono (by omega))).trans (hb13.mono (by omega))
  have r0 := Boxed.kept (Boxed.kept q0 (grown_any (show Below w0.heap.size w0 w1 from hb1) none) (by simp)) (grown_any hb13 none) (by simp)
  have r1 := Boxed.kept (Boxed.kept q1 (grown_any (show Below w0.heap.size w0 w1 from hb1) none) (by simp)) (grown_any hb13 none) (by simp)
  have r2 := (q3.below (show Below w0.heap.size w0 w1 from hb1)).below hb13
  have rD := Boxed.alloc (Boxed.alloc (Boxed.new w1 76 (.slice pv nv cv)) (Obj.cells (Go.madeCells #[Value.int IntKind.u64 0] (n + 1)) 117)) (Obj.cells #[Value.slice (some ⟨w1.heap.size + 1, 0, none⟩) (n + 1) (n + 1)] 76)
  have rL : Own .u64 117 (((w1.alloc (Obj.cells #[Value.slice pv nv cv] 76)).alloc (Obj.cells (Go.madeCells #[Value.int IntKind.u64 0] (n + 1)) 117)).alloc (Obj.cells #[Value.slice (some ⟨w1.heap.size + 1, 0, none⟩) (n + 1) (n + 1)] 76)) (w1.heap.size + 1) (List.replicate (n + 1) 0) := by
    have e := (Own.new .u64 117 (w1.alloc (Obj.cells #[Value.slice pv nv cv] 76)) (n + 1)).below (((Below.refl _ ((w1.alloc (Obj.cells #[Value.slice pv nv cv] 76)).alloc (Obj.cells (Go.madeCells #[Value.int IntKind.u64 0] (n + 1)) 117))).alloc (Nat.le_refl _) (Obj.cells #[Value.slice (some ⟨w1.heap.size + 1, 0, none⟩) (n + 1) (n + 1)] 76))) (by simp)
    simpa using e
  have rB := Boxed.new ((w1.alloc (Obj.cells #[Value.slice pv nv cv] 76)).alloc (Obj.cells (Go.madeCells #[Value.int IntKind.u64 0] (n + 1)) 117)) 76 (.slice (some ⟨w1.heap.size + 1, 0, none⟩) (n + 1) (n + 1))
  simp only [World.size_alloc] at rB
  have rv := hv.below hb13
  have rx := (HX.out.below hb0).below (show Below w0.heap.size w0 w1 from hb1) |>.below hb13
  have hs3 : (((w1.alloc (Obj.cells #[Value.slice pv nv cv] 76)).alloc (Obj.cells (Go.madeCells #[Value.int IntKind.u64 0] (n + 1)) 117)).alloc (Obj.cells #[Value.slice (some ⟨w1.heap.size + 1, 0, none⟩) (n + 1) (n + 1)] 76)).heap.size = w1.heap.size + 1 + 1 + 1 := by simp
  clear q0 q1 q2 q3
  generalize (((w1.alloc (Obj.cells #[Value.slice pv nv cv] 76)).alloc (Obj.cells (Go.madeCells #[Value.int IntKind.u64 0] (n + 1)) 117)).alloc (Obj.cells #[Value.slice (some ⟨w1.heap.size + 1, 0, none⟩) (n + 1) (n + 1)] 76)) = w3 at *
  simp only [hfc]
  refine wp_region_inv (by kernel_rfl) (by kernel_rfl) (CpI w3 (fun v30 v31 v32 v33 v34 => { tmps := #[.slice p n c, .slice (some ⟨b1, o1, none⟩) m d, undef, undef, .pointer (some ⟨w.heap.size, 0, none⟩), .slice none 0 0, .pointer (some ⟨w.heap.size + 1, 0, none⟩), .slice (some ⟨w.heap.size + 1 + 1, 0, none⟩) 1 1, .pointer (some ⟨w1.heap.size, 0, none⟩), .pointer (some ⟨w1.heap.size + 1 + 1, 0, none⟩), undef, undef, undef,
      .slice (some ⟨b1, o1, none⟩) m d, .int .i64 (m : Int), .slice (some ⟨b1, o1, none⟩) m d, .int .i64 (m : Int), .int .i64 (M1 : Int), .pointer (some ⟨b1, o1 + M1, none⟩), .int .u64 (t : Int), .int .u64 ((t : Int) + 1), .int .u64 (f : Int), .slice (some ⟨w.heap.size + 1 + 1, 0, none⟩) 1 1, .slice (some ⟨b1, o1, none⟩) m d, .slice (some ⟨w.heap.size + 1 + 1, 0, none⟩) 1 1, .slice pv nv cv, .slice p n c,
      .int .i64 (n : Int), .int .i64 ((n : Int) + 1), .slice (some ⟨w1.heap.size + 1, 0, none⟩) (n + 1) (n + 1), v30, v31, v32, v33, v34, undef, undef, undef, undef, undef, undef, undef, undef, undef, undef, undef, undef, undef, undef, undef, undef, undef, undef, undef, undef, undef, undef, undef, undef, undef, undef, undef, undef, undef, undef, undef, undef, undef, undef, undef, undef, undef, undef, undef, undef, undef, undef, undef, undef, undef, undef, undef, undef, undef], defers := [] }) (w1.heap.size + 1) n (dv BW xs * f) (.slice (some ⟨w1.heap.size + 1, 0, none⟩) (n + 1) (n + 1)) (.slice p n c) (.slice (some ⟨w.heap.size + 1 + 1, 0, none⟩) 1 1)) ?h0 ?step ?done
  case h0 => exact ⟨_, _, _, _, _, _, rfl, ⟨rfl, rfl, rfl, Nat.le_refl _, fun _ _ _ => rfl⟩, rL, by simp, by simp, by simp, by simp, by simp, fun _ => rfl, by simp⟩
  case step =>
    rintro S i a' w' ⟨v30, v31, v32, v33, v34, ls, rfl, hg, ho, k0, k1, k2, k3, k4, k5, k6⟩ hi hS hd
    have cB := (Boxed.kept rB hg (by simp)).cell
    rcases i with _ | _ | _ | _ | _ | i
    · refine wpOp_list rfl ?_
      go_wp2
      exact ⟨_, _, _, _, _, _, rfl, hg, ho, (fun _ => rfl), (fun h => k1 (by simpa using h)), (fun h => k2 (by simpa using h)), (fun h h' => k3 (by simpa using h) (by simpa using h')), (fun h => by simpa using k4 (by simpa using h)), (fun h => k5 (by simpa using h)), (fun h => k6 (by simpa using h))⟩
    · refine wpOp_list rfl ?_
      go_wp2
      exact ⟨_, _, _, _, _, _, rfl, hg, ho, (fun h => k0 (by simpa using h)), (fun _ => rfl), (fun h => k2 (by simpa using h)), (fun h h' => k3 (by simpa using h) (by simpa using h')), (fun h => by simpa using k4 (by simpa using h)), (fun h => k5 (by simpa using h)), (fun h => k6 (by simpa using h))⟩
    · refine wpOp_list rfl ?_
      go_wp2
      exact ⟨_, _, _, _, _, _, rfl, hg, ho, (fun h => k0 (by simpa using h)), (fun h => k1 (by simpa using h)), (fun _ => rfl), (fun h h' => k3 (by simpa using h) (by simpa using h')), (fun h => by simpa using k4 (by simpa using h)), (fun h => k5 (by simpa using h)), (fun h => k6 (by simpa using h))⟩
    · simp [depsB, Region.binds] at hd
      have hS4 : S 4 = false := by cases h : S 4; rfl; rw [k4 h] at hS; cases hS
      obtain rfl := k1 hd.1
      obtain rfl := k2 hd.2
      have rx' := rx.grownB (rd_ne HX.out (by omega) (by omega)) hg
      have r2' := r2.grownB (fun b o e => by cases e; omega) hg
      refine wpOp_list rfl ?_
      go_wp2_with (go_at_call 155; refine (multiplyWords_any p _ n c 1 1 xs [f] _ (by omega) (by omega) rx' r2' gx.1 gf1).mono ?_; rintro e w4 ⟨pu, nu, cu, us, rfl, hu, hcu, gu, huV, hb4⟩)
      have g4 := grown_any hb4 (some (w1.heap.size + 1))
      refine ⟨_, _, _, _, _, _, rfl, hg.trans g4, ho.below hb4 ho.lt, (fun h => k0 (by simpa using h)), (fun h => by first | rfl | exact k1 (by simpa using h)), (fun h => by first | rfl | exact k2 (by simpa using h)), (fun _ _ => ⟨pu, nu, cu, us, rfl, hu, gu, ?_⟩), (fun _ => by simp), (fun h => k5 (by simpa using h)), (fun h => by simp [hS4] at h)⟩
      rw [huV]; simp [dv]
    · simp [depsB, Region.binds] at hd
      obtain rfl := k0 hd.1
      obtain ⟨pu, nu, cu, us, rfl, hu, gu, huV⟩ := k3 hd.2 hS
      obtain rfl := k5 hS
      refine wpOp_list rfl ?_
      have hXl := dv_lt gx.1
      rw [HX.out.1] at hXl
      have hXp : 0 < dv BW xs := gx.pos (by decide) (by intro e; have := HX.out.1; rw [e] at this; simp at this; omega)
      have hul : us.length ≤ n + 1 := by
        refine gu.length_le (by decide) ?_
        rw [huV, Nat.pow_succ]
        exact Nat.lt_of_lt_of_le (Nat.mul_lt_mul_of_pos_right hXl f1) (Nat.mul_le_mul_left _ (Nat.le_of_lt f2'))
      have hup : 0 < us.length := by
        rcases Nat.eq_zero_or_pos us.length with h | h
        · rw [List.length_eq_zero_iff] at h
          subst h
          have : 0 < dv BW xs * f := Nat.mul_pos hXp f1
          rw [← huV] at this
          simp [dv] at this
        · exact h
      have hun := hu.1
      obtain ⟨bu, ou, rfl, _, _⟩ := hu.2 0 (by omega)
      refine wpList_copy_own rfl (.tmp 30) (.tmp 33) 76 76 rfl 117 Tryz.underlying76 (by kernel_rfl) (w1.heap.size + 1) 0 (n + 1) (n + 1) ⟨bu, ou, none⟩ nu cu rfl rfl (cellsOf .u64 (List.replicate (n + 1) 0)) 117 ho (cellsOf .u64 us).toList ?_ ?_ ?_ ?_ ?_
      · rw [show (cellsOf .u64 us).toList.length = us.length by simp [cellsOf], hun]
        exact (Nat.min_eq_left (by omega)).symm
      · intro k v hk
        have hkl : k < us.length := by
          have := (List.getElem?_eq_some_iff.1 hk).1
          simpa [cellsOf] using this
        obtain ⟨b', o', e, _, hcj⟩ := hu.2 k (by omega)
        cases e
        rw [Array.getElem?_toList, cellsOf_at _ _ _ hkl] at hk
        cases hk
        by_cases h0 : k = 0
        · subst h0; simpa [Addr.add] using hcj
        · simpa [Addr.add, h0] using hcj
      · simp [cellsOf]; omega
      · intro v hv
        simp [cellsOf] at hv
        obtain ⟨x, _, rfl⟩ := hv
        rfl
      · have hS3 := hd.2
        have hgr : w'.grownBy (w'.setRow (w1.heap.size + 1) ((cellsOf .u64 (List.replicate (n + 1) 0)).toList.take 0 ++ ((cellsOf .u64 us).toList ++ (cellsOf .u64 (List.replicate (n + 1) 0)).toList.drop (0 + (cellsOf .u64 us).toList.length))).toArray) (some (w1.heap.size + 1)) :=
          ⟨rfl, rfl, rfl, by simp [World.setRow], fun k hk hne => setRow_other _ _ k _ (fun e => hne (by rw [e]))⟩
        have hown := setRow_heap w' (w1.heap.size + 1) _ ((cellsOf .u64 (List.replicate (n + 1) 0)).toList.take 0 ++ ((cellsOf .u64 us).toList ++ (cellsOf .u64 (List.replicate (n + 1) 0)).toList.drop (0 + (cellsOf .u64 us).toList.length))).toArray _ _ ho
        have hce : ((cellsOf .u64 (List.replicate (n + 1) 0)).toList.take 0 ++ ((cellsOf .u64 us).toList ++ (cellsOf .u64 (List.replicate (n + 1) 0)).toList.drop (0 + (cellsOf .u64 us).toList.length))).toArray = cellsOf .u64 (us ++ List.replicate (n + 1 - us.length) 0) := by
          unfold cellsOf; simp
        rw [hce] at hgr hown ⊢
        clear hun hce
        go_wp2
        exact ⟨_, _, _, _, _, _, rfl, hg.trans hgr, hown, (fun _ => rfl), (fun h => k1 (by simpa using h)), (fun h => k2 (by simpa using h)), (fun _ h => by simp at h), (fun _ => by simp [hS3]), (fun h => by simp at h), (fun _ => ⟨us, gu, huV, hul, rfl⟩)⟩
    · simp at hi; omega
  case done =>
    rintro S a' w4 hS ⟨v30, v31, v32, v33, v34, ls, rfl, hg, ho, k0, k1, k2, k3, k4, k5, k6⟩
    obtain ⟨us, gu, huV, hul, rfl⟩ := k6 (hS 4 (by decide))
    clear k0 k1 k2 k3 k4 k5 k6 hS
    have hVp : 0 < dv BW vs := by
      rw [hvV]
      have := HF.out.2.1
      have h1 : 0 < BW ^ M1 * (t * f) := Nat.mul_pos (Nat.pow_pos (by decide)) (Nat.mul_pos htp f1)
      simp [dv]
      omega
    have hvtop := factor_top (m := M1) (t := t * f) gv (by rw [hvV]; simpa [dv] using HF.out.2.2.1) (by rw [hvV]; simpa [dv] using HF.out.2.1) (Nat.mul_pos htp f1)
    obtain rfl : m = nv := by rw [← hv.1, hvtop.1]; exact HM.out.1
    have hg4 := hg
    have s0 := Boxed.kept r0 hg (by simp; omega)
    have s1 := Boxed.kept r1 hg (by simp; omega)
    have s2 : Rd .u64 w4 (some ⟨w.heap.size + 1 + 1, 0, none⟩) 1 [f] := r2.grownB (fun b o e => by cases e; omega) hg
    have sD := Boxed.kept rD hg (by simp)
    have sB := Boxed.kept rB hg (by simp)
    have sv : Rd .u64 w4 pv m vs := rv.grownB (rd_ne hv (by omega) (by omega)) hg
    have hb4 : Below w.heap.size w w4 := hb3.grown hg hb3.size (fun k e => by cases e; omega)
    have hs4 : w1.heap.size + 1 + 1 + 1 ≤ w4.heap.size := by have := hg.size; omega
    have HG := Lib.hid (And.intro hg (And.intro r0 (And.intro r1 (And.intro rD (And.intro rB (And.intro rv (And.intro rL rx)))))))
    clear hg r0 r1 r2 rD rB rv rL rx
    obtain ⟨K, hK⟩ : ∃ K, n - m + 1 = K := ⟨_, rfl⟩
    have hKi : (n : Int) - (m : Int) + 1 = (K : Int) := by omega
    have hmk2 : ∀ w, (Instr.makeSlice 76 (.int .i64 (K : Int)) (.int .i64 (K : Int))).run Tryz.prog w = .ok (.slice (some ⟨w.heap.size, 0, none⟩) K K) (w.alloc (.cells (Go.madeCells #[.int .u64 0] K) 117)) := fun w => mkWords K (by omega) w
    have HK := Lib.hid hK
    clear hK
    dsimp only
    have c0 := s0.cell
    have c1 := s1.cell
    have cf0 := s0.frozen
    have a0 := Boxed.alloc s0 (.cells (Go.madeCells #[Value.int IntKind.u64 0] K) 117)
    have a0c := a0.cell
    have a0f := a0.frozen
    have hBl : w.heap.size < w4.heap.size := by omega
    have z0 := Boxed.set (.slice (some ⟨w4.heap.size, 0, none⟩) K K) a0
    have z0c := z0.cell
    go_wp2_with (go_at_call 112; refine ((callsIn_wide (n := 6)).1 (down_in Fence.wide 6 trivial rfl _ _ _ _)).mono ?_; rintro e w5 ⟨rfl, rfl⟩)
    refine (wpIn_wide (n := 6)).1 ?_
    have g1 : w4.grownBy (w4.setCell ⟨w.heap.size, 0, none⟩ (.slice (some ⟨w4.heap.size, 0, none⟩) K K)) (some w.heap.size) := ⟨rfl, rfl, rfl, by simp, fun k hk hne => Below.heap_setCell _ _ _ _ (by simp; intro e; exact hne (by rw [e]))⟩
    have t0 := Boxed.alloc (Boxed.alloc (Boxed.set (.slice (some ⟨w4.heap.size, 0, none⟩) K K) s0) (.cells (Go.madeCells #[.int .u64 0] K) 117)) (.cells #[.slice (some ⟨w4.heap.size, 0, none⟩) K K] 76)
    have hb57 : Below (w4.setCell ⟨w.heap.size, 0, none⟩ (.slice (some ⟨w4.heap.size, 0, none⟩) K K)).heap.size (w4.setCell ⟨w.heap.size, 0, none⟩ (.slice (some ⟨w4.heap.size, 0, none⟩) K K)) (((w4.setCell ⟨w.heap.size, 0, none⟩ (.slice (some ⟨w4.heap.size, 0, none⟩) K K)).alloc (.cells (Go.madeCells #[.int .u64 0] K) 117)).alloc (.cells #[.slice (some ⟨w4.heap.size, 0, none⟩) K K] 76)) := ((Below.refl _ _).alloc (Nat.le_refl _) _).alloc (by simp) _
    have t1 := Boxed.kept (Boxed.kept s1 g1 (by simp)) (grown_any hb57 none) (by simp)
    have t2 := (s2.grownB (fun b o e => by cases e; omega) g1).below hb57
    have tD := Boxed.kept (Boxed.kept sD g1 (by simp; omega)) (grown_any hb57 none) (by simp)
    have tB := Boxed.kept (Boxed.kept sB g1 (by simp; omega)) (grown_any hb57 none) (by simp)
    have tv := (Rd.setOther sv s0.cell (by intro x; simp) (.slice (some ⟨w4.heap.size, 0, none⟩) K K)).below hb57
    have tL := (Own.setOther ho ⟨w.heap.size, 0, none⟩ (.slice (some ⟨w4.heap.size, 0, none⟩) K K) (by simp; omega)).below hb57 (by simp; omega)
    have tE := (Own.new .u64 117 (w4.setCell ⟨w.heap.size, 0, none⟩ (.slice (some ⟨w4.heap.size, 0, none⟩) K K)) K).below ((Below.refl _ _).alloc (Nat.le_refl _) (.cells #[.slice (some ⟨w4.heap.size, 0, none⟩) K K] 76)) (by simp)
    have tF := Boxed.new ((w4.setCell ⟨w.heap.size, 0, none⟩ (.slice (some ⟨w4.heap.size, 0, none⟩) K K)).alloc (.cells (Go.madeCells #[.int .u64 0] K) 117)) 76 (.slice (some ⟨w4.heap.size, 0, none⟩) K K)
    have hb7 : Below w.heap.size w (((w4.setCell ⟨w.heap.size, 0, none⟩ (.slice (some ⟨w4.heap.size, 0, none⟩) K K)).alloc (.cells (Go.madeCells #[.int .u64 0] K) 117)).alloc (.cells #[.slice (some ⟨w4.heap.size, 0, none⟩) K K] 76)) := ((hb4.setCell (by simp) _).alloc (by simp; omega) _).alloc (by simp; omega) _
    have hs7 : (((w4.setCell ⟨w.heap.size, 0, none⟩ (.slice (some ⟨w4.heap.size, 0, none⟩) K K)).alloc (.cells (Go.madeCells #[.int .u64 0] K) 117)).alloc (.cells #[.slice (some ⟨w4.heap.size, 0, none⟩) K K] 76)).heap.size = w4.heap.size + 1 + 1 := by simp
    have hs5 : (w4.setCell ⟨w.heap.size, 0, none⟩ (.slice (some ⟨w4.heap.size, 0, none⟩) K K)).heap.size = w4.heap.size := by simp
    simp only [World.size_alloc, hs5] at tE tF
    generalize (((w4.setCell ⟨w.heap.size, 0, none⟩ (.slice (some ⟨w4.heap.size, 0, none⟩) K K)).alloc (.cells (Go.madeCells #[.int .u64 0] K) 117)).alloc (.cells #[.slice (some ⟨w4.heap.size, 0, none⟩) K K] 76)) = w7 at *
    clear s0 s1 s2 sD sB sv ho g1 hb57 z0 z0c a0 a0c a0f c0 c1 cf0 hs5
    have hvE : ∀ b o, pv = some ⟨b, o, none⟩ → b ≠ w4.heap.size := rd_ne hv (by omega) (by omega)
    have hvD : ∀ b o, pv = some ⟨b, o, none⟩ → b ≠ w1.heap.size + 1 := rd_ne hv (by omega) (by omega)
    refine wpIn_rangeFunc_next (encs := encW K) rfl (by omega) (gf := 150) (lb := #[.pointer (some ⟨w4.heap.size + 1, 0, none⟩)]) rfl trivial (enters_of Tryz.func150 (by kernel_rfl) rfl) (fun _ => rfl)
      (fun pre x => pre.length < K ∧ x.1 = dnAt K pre.length) (fun ys => ys.length = K) (KeepsRow (fun b => b = w4.heap.size + 1) w4.heap.size 0 K)
      (fun l J W hW hY h0 => downN_in Fence.wide 5 trivial rfl (by omega) l (w4.heap.size + 1) K K _ w4.heap.size 0 (by omega) J hY W ((hW.cell (p := ⟨w4.heap.size + 1, 0, none⟩) (by simp; omega)).trans (Boxed.cell tF)) rfl
        (fun i hi => ⟨0, by rw [Nat.zero_add]; refine (hW.cell (p := ⟨w4.heap.size, i, none⟩) (by simp; omega)).trans ((tE.cell i (by simpa using hi)).trans ?_); simp [List.getElem?_replicate, hi]⟩) h0)
      KeepsRow.trans (KeepsRow.putObj (by rintro b rfl; omega))
      (fun pre W => DlI w w.heap.size w1.heap.size w4.heap.size pv n m cv K f (dv BW xs) (dv BW ys * f) vs pre.length W)
      (fun pre A B row hs hg hr => by
        obtain ⟨ls, qs, h1, h2, h3, h4, h5, h6, h7, h8, h9, h10, h11⟩ := hs
        have hr' := fun r e => (hr r e).2
        exact ⟨ls, qs, h1, Boxed.kept' h2 hg hr', Boxed.kept' h3 hg hr', h4.keptN hg hr', Boxed.kept' h5 hg hr', Boxed.kept' h6 hg hr', h7.keptN hg hr', h8.kept hg hr', h9.kept hg hr', h10.grown hg h10.size (fun k e => by have := (hr k e).1; omega), Nat.lt_of_lt_of_le h11 hg.size⟩)
      ⟨_, _, ?start, t0, t1, t2, tD, tB, tv, tL, tE, hb7, by omega⟩
      (fun x => { tmps := #[.slice p n c, .slice (some ⟨b1, o1, none⟩) m d, undef, undef, .pointer (some ⟨w.heap.size, 0, none⟩), .slice none 0 0, .pointer (some ⟨w.heap.size + 1, 0, none⟩), .slice (some ⟨w.heap.size + 1 + 1, 0, none⟩) 1 1, .pointer (some ⟨w1.heap.size, 0, none⟩), .pointer (some ⟨w1.heap.size + 1 + 1, 0, none⟩), .int .i64 (x.1.1 : Int), undef, undef,
      .slice (some ⟨b1, o1, none⟩) m d, .int .i64 (m : Int), .slice (some ⟨b1, o1, none⟩) m d, .int .i64 (m : Int), .int .i64 (M1 : Int), .pointer (some ⟨b1, o1 + M1, none⟩), .int .u64 (t : Int), .int .u64 ((t : Int) + 1), .int .u64 (f : Int), .slice (some ⟨w.heap.size + 1 + 1, 0, none⟩) 1 1, .slice (some ⟨b1, o1, none⟩) m d, .slice (some ⟨w.heap.size + 1 + 1, 0, none⟩) 1 1, .slice pv m cv, .slice p n c,
      .int .i64 (n : Int), .int .i64 ((n : Int) + 1), .slice (some ⟨w1.heap.size + 1, 0, none⟩) (n + 1) (n + 1), v30, v31, v32, v33, v34, .slice p n c, .int .i64 (n : Int), .int .i64 (m : Int), .int .i64 ((n : Int) - (m : Int)), .int .i64 (K : Int), .slice (some ⟨w4.heap.size, 0, none⟩) K K, .slice (some ⟨w4.heap.size, 0, none⟩) K K, .func (.func 150) #[] #[.pointer (some ⟨w4.heap.size + 1, 0, none⟩)], .int .i64 (x.1.1 : Int), .int .u64 (x.2 : Int), undef, undef, undef, undef, undef, undef, undef, undef, undef, undef, undef, undef, undef, undef, undef, undef, undef, undef, undef, undef, undef, undef, undef, undef, undef, undef, undef, undef, undef, undef, undef, undef, undef, undef, undef, undef, undef, undef, undef], defers := [] }) ?assign ?body ?done'
    case start =>
      have e := LongI.start (Y := dv BW ys) (m := M1) HX.out.1 (by have := HM.out.1; omega) gx.1 gu.1 rfl huV hul f1 f2' (Nat.le_trans (Nat.mul_le_mul_left _ (Nat.le_mul_of_pos_left f htp)) HF.out.2.1)
      rw [← HM.out.1, HK.out] at e
      exact e
    case assign =>
      intro l x W K hK
      unfold encW
      gi_wp2
      exact hK
    case body =>
      rintro l pre ⟨⟨i, hi⟩, v⟩ W ⟨ls, qs, h1, h2, h3, h4, h5, h6, h7, h8, h9, h10, h11⟩ ⟨hlt, hx1⟩
      have hia : i = K - 1 - pre.length := congrArg (fun z => z.1) hx1
      have hstep : K - pre.length = i + 1 := by omega
      have hKn : K = n - m + 1 := HK.out.symm
      have him : i + m + 1 ≤ n + 1 := by omega
      have hiK : i < K := by omega
      rw [hstep] at h1
      have HI := Lib.hid (And.intro hia (And.intro hstep hKn))
      clear hx1 hia hstep hKn
      have k2 := Boxed.cell h2
      have k3 := Boxed.cell h3
      have k5 := Boxed.cell h5
      have k6 := Boxed.cell h6
      dsimp only
      have hwl : i + m + 1 - i = m + 1 := by omega
      obtain ⟨x1, x2, x3, x4⟩ := LongI.window h1.out (by rw [HM.out.1]; exact HF.out.2.2.1) (by have := HI.out.2.2; omega) hmn
      have hls := drop_three ls i (m + 1)
      have hLl := h1.out.ll
      have hpl : (ls.take i).length = i := by rw [List.length_take]; omega
      have hVV : dv BW vs = dv BW ys * f := by rw [hvV]; simp [dv]
      have gz0 : Dg BW ((ls.drop i).take (m + 1)) := (h1.out.gl.drop i).take _
      obtain ⟨z0, hz0⟩ : ∃ z0, (ls.drop i).take (m + 1) = z0 := ⟨_, rfl⟩
      obtain ⟨pr, hpr⟩ : ∃ pr, ls.take i = pr := ⟨_, rfl⟩
      obtain ⟨po, hpo⟩ : ∃ po, ls.drop (i + (m + 1)) = po := ⟨_, rfl⟩
      rw [hz0, hpr, hpo] at hls
      rw [hz0] at x1 x2 gz0
      rw [hpr] at hpl
      have h8' := h8
      rw [hls] at h8'
      have HZ := Lib.hid (And.intro hz0 (And.intro hpr (And.intro hpo (And.intro hls (And.intro x3 x4)))))
      have HB := Lib.hid (And.intro x2 hVV)
      have HP := Lib.hid (And.intro hpl x1)
      have h8s := Own.seg h8' hpl x1
      clear hz0 hpr hpo hls x2 x3 x4 hVV hpl x1 hLl h8
      gi_wp2
      refine ⟨trivial, (CallsIn.inRound l (callsIn_wide.2 (guessWord_any _ _ m (m + 1) (m + 1) cv z0 vs W hm (by omega) rfl h8s h7 gz0 gv.1 (by rw [HB.out.2]; exact HB.out.1) ?half))).mono ?_⟩
      case half =>
        have e1 := HF.out.2.2.2
        have e2 := hvtop.2
        have e3 : m - 1 = M1 := HM.out.2
        rw [e3]
        omega
      rintro e W1 ⟨g, rfl, hgB, hg1, hg2, hbW⟩
      have gW := grown_any hbW none
      have u5 := Boxed.cell (Boxed.kept h5 gW (by simp))
      have h7' := h7.below hbW
      have h8'' := h8'.below hbW h8'.lt
      gi_wp2
      refine ⟨trivial, (CallsIn.inRound l (callsIn_wide.2 (subtractTimes_any (w1.heap.size + 1) i (m + 1) m (m + 1) cv pr z0 po pv vs g W1 HP.out.1 HP.out.2 rfl (by omega) (by omega) h8'' h7' hvD gz0 gv.1 hgB))).mono ?_⟩
      rintro e W2 ⟨zs, b, hb, rfl, hzl, gzs, hzv, ho2, hg2'⟩
      have gW2 := (grown_any hbW (some (w1.heap.size + 1))).trans hg2'
      have v2 := Boxed.cell (Boxed.kept h2 gW2 (by simp; omega))
      have v5 := Boxed.cell (Boxed.kept h5 gW2 (by simp))
      have hql : qs.length = K := by have := h1.out.ql; rw [this]; exact HI.out.2.2.symm
      have e9 : Own .u64 117 W2 (w4.heap.size) qs := by
        unfold Own at h9 ⊢; rw [gW2.block _ (by omega) (by simp; omega)]; exact h9
      have close : ∀ (zs : List Nat) (q : Nat) (W3 : World), W.grownBy W3 (some (w1.heap.size + 1)) → Own .u64 117 W3 (w1.heap.size + 1) (pr ++ zs ++ po) → zs.length = m + 1 → Dg BW zs → dv BW zs + q * dv BW vs = dv BW z0 → dv BW zs < dv BW vs → q < BW →
          KeepsOthers W (W3.setCell ⟨w4.heap.size, i, none⟩ (.int .u64 (q : Int))) ∧ KeepsRow (fun b => b = w4.heap.size + 1) w4.heap.size 0 K W (W3.setCell ⟨w4.heap.size, i, none⟩ (.int .u64 (q : Int))) ∧ DlI w w.heap.size w1.heap.size w4.heap.size pv n m cv K f (dv BW xs) (dv BW ys * f) vs (pre.length + 1) (W3.setCell ⟨w4.heap.size, i, none⟩ (.int .u64 (q : Int))) := by
        intro zs q W3 hg3 ho3 hzl3 gz3 hz3 hzV3 hq3
        have hst := LongI.step (q := q) (zs := zs) h1.out (by rw [HM.out.1]; exact HF.out.2.2.1) (by have := HI.out.2.2; omega) hmn hzl3 gz3 (by rw [HZ.out.1, ← HB.out.2]; exact hz3) (by rw [← HB.out.2]; exact hzV3) hq3
        rw [HZ.out.2.1, HZ.out.2.2.1] at hst
        exact dl_close (by omega) (by omega) (Nat.le_refl _) hvE hvD h2 h3 h4 h5 h6 h7 ⟨_, h8'⟩ h9 h10 h11 hg3 ho3 (by rw [show K - (pre.length + 1) = i by have := HI.out.2.1; omega]; exact hst) hiK hql
      have HC := Lib.hid close
      have HV := Lib.hid (And.intro hg1 (And.intro hg2 (And.intro hzv (And.intro hzl hgB))))
      clear close hg1 hg2 hzv hzl
      have hgB' : g < 1000000000 := hgB
      clear hgB
      obtain rfl | rfl : b = 0 ∨ b = 1 := by omega
      · have ce := e9.cell i (by omega)
        have fe := e9.frozen i
        gi_wp2
        obtain ⟨a1, a2, a3, a4, a5⟩ := HV.out
        obtain ⟨r1, r2⟩ := round_kept a3 a1 a2 rfl
        have e := HC.out zs g W2 gW2 ho2 a4 gzs r1 r2 a5
        exact ⟨e.1, e.2.1, by dsimp only; rw [List.length_append]; exact e.2.2⟩
      · have hg0 : 1 ≤ g := by
          rcases Nat.eq_zero_or_pos g with h | h
          · exfalso
            obtain ⟨_, _, a3, a4, _⟩ := HV.out
            have l1 := dv_lt gzs
            rw [a4] at l1
            rw [h, Nat.zero_mul, Nat.mul_one] at a3
            omega
          · exact h
        obtain ⟨g', hg'⟩ : ∃ g', g - 1 = g' := ⟨_, rfl⟩
        have hgc : (g : Int) - 1 = (g' : Int) := by omega
        have HG' := Lib.hid hg'
        clear hg'
        have h7'' := h7'.grownB hvD hg2'
        gi_wp2
        refine ⟨trivial, (CallsIn.inRound l (callsIn_wide.2 (addBack_any (w1.heap.size + 1) i (m + 1) m (m + 1) cv pr zs po pv vs W2 HP.out.1 HV.out.2.2.2.1 (by omega) (by omega) (by omega) ho2 h7'' hvD gzs gv.1))).mono ?_⟩
        rintro e W3 ⟨ys', cc, hcc, rfl, hyl, gys, hyv, ho3, hg3'⟩
        have gW3 := gW2.trans hg3'
        have y2 := Boxed.cell (Boxed.kept h2 gW3 (by simp; omega))
        have e93 : Own .u64 117 W3 (w4.heap.size) qs := by
          unfold Own at h9 ⊢; rw [gW3.block _ (by omega) (by simp; omega)]; exact h9
        have ce := e93.cell i (by omega)
        have fe := e93.frozen i
        have HYY := Lib.hid (And.intro hyl (And.intro hyv hcc))
        clear hyl hyv hcc
        gi_wp2
        obtain ⟨a1, a2, a3, a4, a5⟩ := HV.out
        obtain ⟨b1', b2', b3'⟩ := HYY.out
        have hVs : dv BW vs < BW ^ (m + 1) := by
          have := dv_lt gv.1
          rw [h7.1] at this
          exact Nat.lt_of_lt_of_le this (Nat.pow_le_pow_right (by decide) (by omega))
        obtain ⟨r0, r1, r2⟩ := round_back gzs gys a4 b1' a3 a1 rfl b2' b3' hVs
        rw [HG'.out] at r1
        have e := HC.out ys' g' W3 gW3 ho3 b1' gys r1 r2 (by have := HG'.out; show _ < 1000000000; omega)
        exact ⟨e.1, e.2.1, by dsimp only; rw [List.length_append]; exact e.2.2⟩
    case done' =>
      rintro Dd zs W hDd hzs ⟨ls, qs, h1, h2, h3, h4, h5, h6, h7, h8, h9, h10, h11⟩ hKd
      rw [hzs, Nat.sub_self] at h1
      have k2 := Boxed.cell h2
      have k6 := Boxed.cell h6
      have kf := h4.2 0 (by omega)
      obtain ⟨_, _, ef, _, kf⟩ := kf
      cases ef
      simp at kf
      have hll := h1.out.ll
      have hql : qs.length = K := by have := h1.out.ql; rw [this]; exact HK.out
      have HLQ := Lib.hid (And.intro hll hql)
      go_upto_region 15 with fail
      have k6d : W.drew.cell? _ = _ := k6
      have kfd : W.drew.cell? _ = _ := kf
      have h8d : Rd .u64 W.drew (some ⟨w1.heap.size + 1, 0, none⟩) (n + 1) ls := h8.rd hll
      have hrt := trimLen_le ls (n + 1)
      have g1l := h1.out.gl
      have H8 := Lib.hid h8d
      clear hll hql
      go_region_held3 (fun w' => w'.cell? ⟨w1.heap.size + 1 + 1, 0, none⟩ = some (.slice (some ⟨w1.heap.size + 1, 0, none⟩) (n + 1) (n + 1)) ∧ w'.cell? ⟨w.heap.size + 1 + 1, 0, none⟩ = some (.int .u64 (f : Int)))
        (((repeat' apply And.intro) <;> (repeat (first | (simp only [*]; done) | refine cell_alloc ?_ | refine cell_call (by assumption) ?_ | refine cell_call (W := W.drew) (by assumption) ?_)); done))
        (first
          | (go_at_call 147; refine (trimmed_any _ _ _ ls _ (by unfold maxLen; omega) (Nat.le_refl _) H8.out).mono ?_; rintro e w' ⟨rfl, rfl⟩)
          | (go_at_call 148; refine (divideByWord_any _ _ _ f _ _ (Nat.le_trans hrt (by omega)) (H8.out.take _ hrt) (g1l.take _) f1 f2').mono ?_; rintro e wz ⟨pr2, nr2, cr2, rs, r, rfl, hrr, hrc, hrg, hrf, hrv, hbr⟩; have j6 := cell_call (W := W.drew) hbr k6; have jf := cell_call (W := W.drew) hbr kf))
      have l2 := Boxed.kept (W := W.drew) h2 (grown_any hbr none) (by simp)
      have l2c := Boxed.cell l2
      have l2f := Boxed.frozen l2
      have l9 : Own .u64 117 wz w4.heap.size qs := Own.below (w := W.drew) h9 hbr h9.lt
      have lK : wz.heap[Dd]? = some (.deferred (some [])) := (hbr.block Dd (Array.getElem?_eq_some_iff.1 hKd).1).trans hKd
      have l9r := l9.rd HLQ.out.2
      have hqt := trimLen_le qs K
      have hB7 : Below w.heap.size w wz := h10.drew.trans (hbr.mono h10.size)
      have HRR := Lib.hid hrr
      have HRV := Lib.hid hrv
      clear hrr hrv
      go_wp2_with (go_at_call 147; refine (trimmed_any _ _ _ qs _ (by unfold maxLen; omega) (Nat.le_refl _) l9r).mono ?_; rintro e wy ⟨rfl, rfl⟩)
      have lKf : (wy.setCell ⟨w.heap.size, 0, none⟩ (.slice (some ⟨w4.heap.size, 0, none⟩) (trimLen qs K) (trimLen qs K))).heap[Dd]? = some (.deferred (some [])) := (KeepsOthers.setCell _ _ _).same Dd _ lK rfl
      have m2 := Boxed.set (.slice (some ⟨w4.heap.size, 0, none⟩) (trimLen qs K) (trimLen qs K)) l2
      have p2 := (Boxed.kept' m2 (grownBy_putObj' _ Dd (.deferred none)) (fun r e => by cases e; exact ⟨_, lKf, rfl⟩)).cell
      have m9 := (Own.setOther l9 ⟨w.heap.size, 0, none⟩ (.slice (some ⟨w4.heap.size, 0, none⟩) (trimLen qs K) (trimLen qs K)) (by simp; omega)).putObj Dd _ (.deferred none) lKf rfl
      have mr := (Rd.setOther HRR.out l2c (by intro x; simp) (.slice (some ⟨w4.heap.size, 0, none⟩) (trimLen qs K) (trimLen qs K))).keptN (grownBy_putObj' _ Dd (.deferred none)) (fun r e => by cases e; exact ⟨_, lKf, rfl⟩)
      have mB : Below w.heap.size w (wy.setCell ⟨w.heap.size, 0, none⟩ (.slice (some ⟨w4.heap.size, 0, none⟩) (trimLen qs K) (trimLen qs K))) := hB7.setCell (by simp) _
      have hsz7 := hb7.size
      have hval := LongI.done (rs := rs) (r := r) h1.out f1 hrf (by have e := dv_trimZ BW ls; unfold trimZ at e; rw [HLQ.out.1] at e; rw [← e]; exact HRV.out)
      refine ⟨by simp, .inl ⟨_, _, rfl, run_takeDeferred lKf, ?_⟩⟩
      refine ⟨.tuple #[.slice (some ⟨w4.heap.size, 0, none⟩) (trimLen qs K) (trimLen qs K), .slice pr2 nr2 cr2], ?_, _, _, _, trimZ qs, _, _, _, rs, rfl, ?_, Nat.le_refl _, trimZ_cn h1.out.gq, mr, hrc, hrg, ?_, hval.2, mB.trans (belowK_b (w := w) (Nat.le_refl _) _ Dd _ _ (by omega) lKf rfl rfl)⟩
      · simp [results, Tryz.f149, go_sem, p2]
      · unfold trimZ; rw [HLQ.out.2]; exact (m9.rd HLQ.out.2).take _ hqt
      · rw [dv_trimZ, Nat.mul_comm]; exact hval.1

end Go.Proofs.YtimcbmgmngkagaaGreatDoor

namespace Go.Proofs.YtimcbmgmngkagaaGreatDoor
open Go.RowKit

set_option maxHeartbeats 1000000 in
theorem divideWords_any (p q : Option Addr) (n c m d : Nat) (xs ys : List Nat) (w : World) (hn : n ≤ 1000000) (hm : m ≤ 1000000) (hc : n ≤ c) (hd : m ≤ d) (hx : Rd .u64 w p n xs) (hy : Rd .u64 w q m ys) (gx : Cn BW xs) (gy : Cn BW ys) (h0 : 0 < dv BW ys) :
    Calls Tryz.prog 107 #[.slice p n c, .slice q m d] w (DivOut w xs ys) := by
  by_cases hs : dv BW xs < dv BW ys ∨ m = 1
  · exact divideWords_small p q n c m d xs ys w hn hm hc hd hx hy gx gy h0 hs
  · obtain ⟨hlt, hm1⟩ := not_or.1 hs
    have hm0 : m ≠ 0 := by
      rintro rfl
      rw [List.length_eq_zero_iff.1 hy.1] at h0
      simp [dv] at h0
    have hmn : m ≤ n := by
      rcases Nat.lt_or_ge n m with h | h
      · have := Cn.lt_of_length (b := BW) (by decide) gx.1 gy (by rw [hx.1, hy.1]; exact h)
        omega
      · exact h
    have h1 : ¬ sgnCmp (dv BW xs) (dv BW ys) < 0 := by rw [sgnCmp_neg]; omega
    obtain ⟨SG, hSG⟩ : ∃ SG, sgnCmp (dv BW xs) (dv BW ys) = SG := ⟨_, rfl⟩
    rw [hSG] at h1
    have H1 := Lib.hid hSG
    have hmi : ¬ ((m : Int) = 1) := by omega
    have hmb : (m == 1) = false := by simp [hm1]
    clear hSG hs
    go_enter Tryz.func107, Tryz.ntmps107
    go_wp2_with (first
      | (go_at_call 114; refine (compareWords_any _ _ _ _ _ _ xs ys _ (by omega) (by omega) hx hy gx gy).mono ?_; rintro e w1 ⟨rfl, hb1⟩; rw [H1.out])
      | (go_at_call 149; refine (divideLong_any p q n c m d xs ys _ hn (by omega) hmn (hx.below hb1) (hy.below hb1) gx gy).mono ?_; rintro e w2 ⟨p1, n1, c1, qs, q1, m1, d1, rs, rfl, r1, r2, r3, r4, r5, r6, r7, r8, hb2⟩))
    go_ret2
    exact ⟨_, _, _, qs, _, _, _, rs, rfl, r1, r2, r3, r4, r5, r6, r7, r8, hb1.trans (hb2.mono hb1.size)⟩

theorem canDiv_any {x y : Int} (h0 : y ≠ 0) : CanDiv x y := by
  intro a b p q n c m d xs ys w W hx hy r1 r2
  have hm0 : m ≠ 0 := fun e => h0 ((num_zero hy).2 e)
  exact divideWords_any p q n c m d xs ys W (Nat.le_trans hx.len (by decide)) (Nat.le_trans hy.len (by decide)) hx.cap hy.cap r1 r2 hx.cn hy.cn (hy.cn.pos (by decide) (by intro e; have := hy.rd.1; rw [e] at this; simp at this; omega))

/-- Div, whole. -/
theorem div_all (s t : ByteArray) (w : World) (hs : s.size ≤ maxLen) (ht : t.size ≤ maxLen) (htab : Tab w) :
    Calls Tryz.prog 13 #[.string s, .string t] w (DivIs w (numB s.data.toList && numB t.data.toList) (strV s.data.toList) (strV t.data.toList)) :=
  div_any s t w hs ht htab fun _ _ h0 => canDiv_any h0

end Go.Proofs.YtimcbmgmngkagaaGreatDoor
