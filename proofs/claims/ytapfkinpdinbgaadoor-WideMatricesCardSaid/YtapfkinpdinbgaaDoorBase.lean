/-
  What the walks share: slices of numbers that are read; rows of numbers that the call itself has made.
-/
import Derived.Test.YtapfkinpdinbgaaDoorProg
import Derived.Test.YtapfkinpdinbgaaDoorMath
import Derived.WalkKit
import Derived.WalkSpells
import Derived.WalkLawsBesides
import Derived.Outline
import Derived.Deep.QuietTactic
import Derived.Deep.OwnRows
import Derived.Deep.RegionHeld3
import Derived.Deep.DeepCutAuto
import Derived.Deep.LoopGhost
import Derived.BigQuiet
import Derived.Lib.Hide
import Derived.KernelRfl
namespace Go.Proofs.YtapfkinpdinbgaaDoor
open Go.RowKit

/-- A slice value reads as numbers. -/
def Rd (k : IntKind) (w : World) (p : Option Addr) (n : Nat) (xs : List Nat) : Prop :=
  xs.length = n ∧ ∀ i, i < n → ∃ b off, p = some ⟨b, off, none⟩ ∧ b < w.heap.size ∧ w.cell? ⟨b, off + i, none⟩ = some (.int k ((xs[i]?.getD 0 : Nat) : Int))

/-- Numbers as cells. -/
def cellsOf (k : IntKind) (ns : List Nat) : Array Value := (ns.map fun (n : Nat) => Value.int k (n : Int)).toArray

/-- Block B is a row of numbers. -/
def Own (k : IntKind) (e : TypeId) (w : World) (B : Nat) (ns : List Nat) : Prop := w.heap[B]? = some (.cells (cellsOf k ns) e (0, 0))

theorem cellsOf_at (k : IntKind) (ns : List Nat) (i : Nat) (h : i < ns.length) : (cellsOf k ns)[i]? = some (.int k ((ns[i]?.getD 0 : Nat) : Int)) := by
  unfold cellsOf; simp [h]

theorem cellsOf_set (k : IntKind) (ns : List Nat) (i x : Nat) : (cellsOf k ns).setIfInBounds i (.int k (x : Int)) = cellsOf k (ns.set i x) := by
  unfold cellsOf; simp [List.map_set]

theorem cellsOf_zeros (k : IntKind) (n : Nat) : Go.madeCells #[Value.int k 0] n = cellsOf k (List.replicate n 0) := by
  unfold Go.madeCells cellsOf
  apply Array.ext
  · simp
  · intro i h1 h2
    simp at h1
    simp [Nat.mod_one]

theorem Own.cell {k : IntKind} {e : TypeId} {w : World} {B : Nat} {ns : List Nat} (h : Own k e w B ns) (i : Nat) (hi : i < ns.length) :
    w.cell? ⟨B, i, none⟩ = some (.int k ((ns[i]?.getD 0 : Nat) : Int)) := by
  unfold Own at h; unfold World.cell?; simp only [h]; simpa using cellsOf_at k ns i hi

theorem Own.frozen {k : IntKind} {e : TypeId} {w : World} {B : Nat} {ns : List Nat} (h : Own k e w B ns) (i : Nat) : w.frozen? ⟨B, i, none⟩ = false := by
  unfold Own at h; unfold World.frozen?; simp [h]

theorem Own.lt {k : IntKind} {e : TypeId} {w : World} {B : Nat} {ns : List Nat} (h : Own k e w B ns) : B < w.heap.size := by
  unfold Own at h; exact (Array.getElem?_eq_some_iff.1 h).1

theorem Own.set {k : IntKind} {e : TypeId} {w : World} {B : Nat} {ns : List Nat} (h : Own k e w B ns) (i x : Nat) :
    Own k e (w.setCell ⟨B, i, none⟩ (.int k (x : Int))) B (ns.set i x) := by
  unfold Own at h ⊢
  unfold World.setCell
  simp only [Array.getElem?_modify, if_true, h, Option.map_some]
  rw [← cellsOf_set]; rfl

theorem Own.rd {k : IntKind} {e : TypeId} {w : World} {B : Nat} {ns : List Nat} (h : Own k e w B ns) {n : Nat} (hn : ns.length = n) : Rd k w (some ⟨B, 0, none⟩) n ns :=
  ⟨hn, fun i hi => ⟨B, 0, rfl, h.lt, by rw [Nat.zero_add]; exact h.cell i (by omega)⟩⟩

/-- The first place that is not written yet is written. -/
theorem Own.fill {k : IntKind} {e : TypeId} {w : World} {B N : Nat} {zs : List Nat} (h : Own k e w B (zs ++ List.replicate (N - zs.length) 0)) (hl : zs.length < N) (i : Nat) (hi : i = zs.length) (x : Nat) :
    Own k e (w.setCell ⟨B, i, none⟩ (.int k (x : Int))) B ((zs ++ [x]) ++ List.replicate (N - (i + 1)) 0) := by
  subst hi
  have h1 := h.set zs.length x
  have e1 : N - zs.length = (N - (zs.length + 1)) + 1 := by omega
  rw [e1, set_filled] at h1
  exact h1

theorem Own.new (k : IntKind) (e : TypeId) (w : World) (n : Nat) : Own k e (w.alloc (.cells (Go.madeCells #[Value.int k 0] n) e)) w.heap.size (List.replicate n 0) := by
  unfold Own World.alloc
  rw [← cellsOf_zeros]
  simp

theorem Own.below {k : IntKind} {e : TypeId} {w w' : World} {B C : Nat} {ns : List Nat} (h : Own k e w B ns) (hb : Below C w w') (hC : B < C) : Own k e w' B ns := by
  unfold Own at h ⊢; rw [hb.block B hC]; exact h

theorem Rd.below {k : IntKind} {w w' : World} {p : Option Addr} {n : Nat} {xs : List Nat} (h : Rd k w p n xs) (hb : Below w.heap.size w w') : Rd k w' p n xs := by
  refine ⟨h.1, fun i hi => ?_⟩
  obtain ⟨b, off, hp, hlt, hc⟩ := h.2 i hi
  exact ⟨b, off, hp, Nat.lt_of_lt_of_le hlt hb.size, (hb.cell (p := ⟨b, off + i, none⟩) hlt).trans hc⟩

theorem Rd.take {k : IntKind} {w : World} {p : Option Addr} {n : Nat} {xs : List Nat} (h : Rd k w p n xs) (m : Nat) (hm : m ≤ n) : Rd k w p m (xs.take m) := by
  refine ⟨by rw [List.length_take, h.1]; omega, fun i hi => ?_⟩
  obtain ⟨b, off, hp, hlt, hc⟩ := h.2 i (by omega)
  refine ⟨b, off, hp, hlt, ?_⟩
  rw [hc, List.getElem?_take_of_lt hi]

theorem Rd.nil (k : IntKind) (w : World) (p : Option Addr) : Rd k w p 0 [] := ⟨rfl, fun i hi => by omega⟩

theorem bcell {W w1 : World} (hb : Below W.heap.size W w1) : (∀ b o, b < W.heap.size → w1.cell? ⟨b, o, none⟩ = W.cell? ⟨b, o, none⟩) ∧ (∀ b o, b < W.heap.size → w1.frozen? ⟨b, o, none⟩ = W.frozen? ⟨b, o, none⟩) :=
  ⟨fun b o h => hb.cell (p := ⟨b, o, none⟩) h, fun b o h => hb.frozen (p := ⟨b, o, none⟩) h⟩

theorem ret_val {a b : Value} (h : a = b) : Ending.returned a = .returned b := by rw [h]
theorem ret_int {k : IntKind} {a b : Int} (h : a = b) : Ending.returned (.int k a) = .returned (.int k b) := by rw [h]

theorem Tryd.info73 : (Tryd.prog.info? 73).map (fun i => (i.zero, i.size, i.bytes)) = some (some (.int .u64 0), 1, 8) := by kernel_rfl
theorem Tryd.info3 : (Tryd.prog.info? 3).map (fun i => (i.zero, i.size, i.bytes)) = some (some (.int .i64 0), 1, 8) := by kernel_rfl

/-- make(words, n) -/
theorem mkWords (n : Nat) (hn : n ≤ 35184372088832) (w : World) :
    (Instr.makeSlice 77 (.int .i64 (n : Int)) (.int .i64 (n : Int))).run Tryd.prog w = .ok (.slice (some ⟨w.heap.size, 0, none⟩) n n) (w.alloc (.cells (Go.madeCells #[.int .u64 0] n) 73)) :=
  run_make_row' _ _ (.int .u64 0) 8 Tryd.underlying77 Tryd.info73 rfl .i64 .i64 n (by omega) (by omega) w

end Go.Proofs.YtapfkinpdinbgaaDoor
