/-
  The iterator over a number's words, from the highest on: what it hands to each round.
-/
import Derived.Test.YtapfkinpdinbgaaDoorBase
import Derived.Test.YtapfkinpdinbgaaDoorWords
import Derived.RangeFuncNested
import Derived.RangeFuncBound
import Derived.RangeFuncCalls
import Derived.RangeFuncLeaves
import Derived.Shelf.Abstract
import Derived.Shelf.RegionOpen
import Derived.BigRegionIn
import Derived.OwnWalkIn
import Derived.TacticsInMore
import Derived.LoopNIn
import Derived.LoopIn
namespace Go.Proofs.YtapfkinpdinbgaaDoor
open Go.RowKit

/-- -1, 0 or 1. -/
def sgnCmp (a b : Int) : Int := if a < b then -1 else if a = b then 0 else 1
theorem sgnCmp_lt {a b : Int} (h : a < b) : sgnCmp a b = -1 := by rw [sgnCmp, if_pos h]
theorem sgnCmp_gt {a b : Int} (h : b < a) : sgnCmp a b = 1 := by rw [sgnCmp, if_neg (by omega), if_neg (by omega)]
theorem sgnCmp_eq (a : Int) : sgnCmp a a = 0 := by rw [sgnCmp, if_neg (by omega), if_pos rfl]

theorem cmp_int (a b : Int) (w : World) :
    Calls Tryd.prog 77 #[.int .i64 a, .int .i64 b] w fun e w' => e = .returned (.int .i64 (sgnCmp a b)) ∧ w = w' := by
  rcases Int.lt_trichotomy a b with h | rfl | h
  · have H := Lib.hid (sgnCmp_lt h)
    go_enter Tryd.func77, Tryd.ntmps77
    go_wp2
    go_ret
    exact ⟨ret_int H.out.symm, rfl⟩
  · have H := Lib.hid (sgnCmp_eq a)
    go_enter Tryd.func77, Tryd.ntmps77
    go_wp2
    go_ret
    exact ⟨ret_int H.out.symm, rfl⟩
  · have H := Lib.hid (sgnCmp_gt h)
    go_enter Tryd.func77, Tryd.ntmps77
    go_wp2
    go_ret
    exact ⟨ret_int H.out.symm, rfl⟩

theorem cmp_uint64 (a b : Int) (w : World) :
    Calls Tryd.prog 101 #[.int .u64 a, .int .u64 b] w fun e w' => e = .returned (.int .i64 (sgnCmp a b)) ∧ w = w' := by
  rcases Int.lt_trichotomy a b with h | rfl | h
  · have H := Lib.hid (sgnCmp_lt h)
    go_enter Tryd.func101, Tryd.ntmps101
    go_wp2
    go_ret
    exact ⟨ret_int H.out.symm, rfl⟩
  · have H := Lib.hid (sgnCmp_eq a)
    go_enter Tryd.func101, Tryd.ntmps101
    go_wp2
    go_ret
    exact ⟨ret_int H.out.symm, rfl⟩
  · have H := Lib.hid (sgnCmp_gt h)
    go_enter Tryd.func101, Tryd.ntmps101
    go_wp2
    go_ret
    exact ⟨ret_int H.out.symm, rfl⟩

end Go.Proofs.YtapfkinpdinbgaaDoor

namespace Go.Proofs.YtapfkinpdinbgaaDoor
open Go.RowKit Go.Shelf
attribute [local go_sem] Oper.semAt_some

/-- What has come when k rounds are over. -/
def upto {α : Type} (f : Nat → α) (k : Nat) : List α := (List.range k).map f
theorem upto_succ {α : Type} (f : Nat → α) (k : Nat) : upto f (k + 1) = upto f k ++ [f k] := by simp [upto, List.range_succ]
theorem upto_length {α : Type} (f : Nat → α) (k : Nat) : (upto f k).length = k := by simp [upto]

/-- A place in a number of len words. -/
abbrev Pos (len : Nat) := { i : Nat // 0 < len → i < len }

/-- Round j's place. -/
def dnAt (len : Nat) (j : Nat) : Pos len := ⟨len - 1 - j, fun h => by omega⟩

/-- The blocks of S lie as they lay. -/
def KeepsAt (S : Nat → Prop) (W W' : World) : Prop := ∀ b, S b → W'.heap[b]? = W.heap[b]?
theorem KeepsAt.refl (S : Nat → Prop) (W : World) : KeepsAt S W W := fun _ _ => rfl
theorem KeepsAt.trans {S : Nat → Prop} {A B C : World} (h : KeepsAt S A B) (k : KeepsAt S B C) : KeepsAt S A C := fun b hb => (k b hb).trans (h b hb)
theorem KeepsAt.cell {S : Nat → Prop} {W W' : World} (h : KeepsAt S W W') {p : Addr} (hp : S p.block) : W'.cell? p = W.cell? p := World.cell?_of_block (w := W) (h p.block hp)
theorem KeepsAt.of_below {S : Nat → Prop} {B : Nat} {W W' : World} (h : Below B W W') (hS : ∀ b, S b → b < B) : KeepsAt S W W' := fun b hb => h.block b (hS b hb)
theorem KeepsAt.setCell {S : Nat → Prop} {W W' : World} (h : KeepsAt S W W') (a : Addr) (v : Value) (ha : ¬ S a.block) : KeepsAt S W (W'.setCell a v) :=
  h.trans fun b hb => Below.heap_setCell _ _ _ _ (fun e => ha (e ▸ hb))
theorem KeepsAt.putObj {S : Nat → Prop} {N : Nat} (hS : ∀ b, S b → b < N) (W : World) (l : Nat) (o o' : Obj) (hl : N ≤ l) (_ : W.heap[l]? = some o) (_ : o.isCells = false) (_ : o.isWalk = false) : KeepsAt S W (W.putObj l o') :=
  fun b hb => World.putObj_heap_other (by have := hS b hb; omega)

def encDn (xs : List Nat) (len : Nat) (x : Pos len) : Array Value := #[.int .i64 (x.1 : Int), .int .u64 ((xs[x.1]?.getD 0 : Nat) : Int)]

set_option maxHeartbeats 1000000 in
theorem down_in (F : Fence) (n : Nat) (h5 : F.fn 72) (hro : F.round = none) (a : Option Addr) (len cap : Nat) (w : World) :
    CallsIn F n Tryd.prog 72 #[.slice a len cap] w fun e w' => e = .returned (.func (.func 98) #[] #[.pointer (some ⟨w.heap.size, 0, none⟩)]) ∧ w' = w.alloc (.cells #[.slice a len cap] 77) := by
  refine callsIn_of_wp Tryd.func72 rfl h5 ?_ hro
  simp only [Tryd.ntmps72, List.size_toArray, List.length_cons, List.length_nil, Nat.reduceAdd, Nat.reduceSub, Array.replicate_succ, Array.replicate_zero, List.push_toArray, List.append_toArray, List.nil_append, List.cons_append]
  gi_wp2
  go_ret
  exact ⟨rfl, rfl⟩

set_option maxRecDepth 100000 in
set_option maxHeartbeats 2000000 in
/-- For every loop body that keeps what lay below n₀. -/
theorem down1_in (F : Fence) (n : Nat) (h7 : F.fn 98) (hro : F.round = none) (hn : 1 ≤ n) (l Bs len cap : Nat) (S : Nat → Prop) (p : Option Addr) (xs : List Nat) (hreach : len ≤ 1000000000) (J Jx : List (Pos len) → World → Prop)
    (hY : ∀ pre x W, J pre W → pre.length < len → YieldAt F (n - 1) Tryd.prog l (encDn xs len x) W fun e W' =>
      (e = .returned (.bool true) ∧ J (pre ++ [x]) W' ∧ KeepsAt S W W') ∨ (e = .returned (.bool false) ∧ Jx (pre ++ [x]) W'))
    (W : World) (hBs : W.cell? ⟨Bs, 0, none⟩ = some (.slice p len cap)) (hBn : S Bs) (hl : xs.length = len)
    (hc : ∀ i, i < len → ∃ b off, p = some ⟨b, off, none⟩ ∧ S b ∧ W.cell? ⟨b, off + i, none⟩ = some (.int .u64 ((xs[i]?.getD 0 : Nat) : Int))) (h0 : J [] W) :
    CallsIn F n Tryd.prog 98 #[.func (.yield l) #[] #[], .pointer (some ⟨Bs, 0, none⟩)] W fun e W' => (∃ v, e = .returned v) ∧
      ((∃ ys, ys = upto (dnAt len) len ∧ J ys W') ∨ (∃ pre, (∃ k, k ≤ len ∧ pre = upto (dnAt len) k) ∧ Jx pre W')) := by
  have HL := Lib.hid hl
  clear hl
  refine callsIn_of_wp Tryd.func98 rfl h7 ?_ hro
  simp only [Tryd.ntmps98, List.size_toArray, List.length_cons, List.length_nil, Nat.reduceAdd, Nat.reduceSub, Array.replicate_succ, Array.replicate_zero, List.push_toArray, List.append_toArray, List.nil_append, List.cons_append]
  gi_wp2
  gi_loopw [3] (fun i wr => ∃ k : Nat, k ≤ len ∧ i = .int .i64 ((len : Int) - 1 - k) ∧ J (upto (dnAt len) k) wr ∧ KeepsAt S W wr)
    (fun i _ => (intOf i + 1).toNat)
  case atStart => exact ⟨0, Nat.zero_le _, by simp, h0, KeepsAt.refl _ _⟩
  case round =>
    obtain ⟨k, hk, rfl, hJs, hnx⟩ := hrel
    have hbx : wr.cell? ⟨Bs, 0, none⟩ = some (.slice p len cap) := (hnx.cell (p := ⟨Bs, 0, none⟩) hBn).trans hBs
    by_cases hlt : k < len
    · obtain ⟨b, off, rfl, hb, hcell0⟩ := hc (len - 1 - k) (by omega)
      have hcell := (hnx.cell (p := ⟨b, off + (len - 1 - k), none⟩) hb).trans hcell0
      obtain ⟨fn, tmps, assign, body, hy, hR⟩ := hY _ (dnAt len k) wr hJs (by rw [upto_length]; exact hlt)
      unfold encDn dnAt at hy
      dsimp only at hy
      have e0 : ((len - 1 - k : Nat) : Int) = (len : Int) - 1 - k := by omega
      rw [e0] at hy
      have HE := Lib.hid e0
      clear e0
      gi_wp2
      refine hR.mono ?_
      rintro e W3 (⟨rfl, hJ3, hk3⟩ | ⟨rfl, hJx3⟩)
      · gi_wp2
        go_roundw
        case rel => exact ⟨k + 1, by omega, by simp; omega, by rw [upto_succ]; exact hJ3, hnx.trans hk3⟩
        case measure => simp [intOf]; omega
      · gi_wp2
        refine bodyPost_ret (results_none rfl _ _ _) rfl ?_
        exact ⟨⟨_, rfl⟩, .inr ⟨_, ⟨k + 1, by omega, (upto_succ _ _).symm⟩, hJx3⟩⟩
    · obtain rfl : k = len := by omega
      gi_wp2
      go_end0
      exact ⟨⟨_, rfl⟩, .inl ⟨_, rfl, hJs⟩⟩

/-- All words, from the highest on; or the first of them. -/
theorem down_stops (F : Fence) (n : Nat) (h7 : F.fn 98) (hro : F.round = none) (hn : 1 ≤ n) (Bs len cap : Nat) (S : Nat → Prop) (p : Option Addr) (xs : List Nat) (hreach : len ≤ 1000000000) (w : World) (hS : ∀ b, S b → b < w.heap.size)
    (hBs : w.cell? ⟨Bs, 0, none⟩ = some (.slice p len cap)) (hBn : S Bs) (hl : xs.length = len)
    (hc : ∀ i, i < len → ∃ b off, p = some ⟨b, off, none⟩ ∧ S b ∧ w.cell? ⟨b, off + i, none⟩ = some (.int .u64 ((xs[i]?.getD 0 : Nat) : Int))) :
    SeqStopsK F n Tryd.prog 98 #[.pointer (some ⟨Bs, 0, none⟩)] (encDn xs len) (KeepsAt S) (fun ys => ys = upto (dnAt len) len)
      (fun pre => ∃ k, k ≤ len ∧ pre = upto (dnAt len) k) len w := fun l J Jx W hW _ _ hY h0 => by
  have hW' := KeepsAt.of_below hW hS
  refine down1_in F n h7 hro hn l Bs len cap S p xs hreach J Jx hY W ((hW'.cell (p := ⟨Bs, 0, none⟩) hBn).trans hBs) hBn hl (fun i hi => ?_) h0
  obtain ⟨b, off, hp, hb, hcell⟩ := hc i hi
  exact ⟨b, off, hp, hb, (hW'.cell (p := ⟨b, off + i, none⟩) hb).trans hcell⟩

end Go.Proofs.YtapfkinpdinbgaaDoor
