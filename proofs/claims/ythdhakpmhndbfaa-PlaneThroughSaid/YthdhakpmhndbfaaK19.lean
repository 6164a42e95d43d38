/-
  The reference's Through: its loops.
-/
import Derived.Test.YthdhakpmhndbfaaK1
import Derived.Test.YthdhakpmhndbfaaK2
import Derived.Test.YthdhakpmhndbfaaK3
import Derived.Test.YthdhakpmhndbfaaK4
import Derived.Test.YthdhakpmhndbfaaK5
import Derived.Test.YthdhakpmhndbfaaK6
import Derived.Test.YthdhakpmhndbfaaK7
import Derived.Test.YthdhakpmhndbfaaK8
import Derived.Test.YthdhakpmhndbfaaK9
import Derived.Test.YthdhakpmhndbfaaK10
import Derived.Test.YthdhakpmhndbfaaK11
import Derived.Test.YthdhakpmhndbfaaK12
import Derived.Test.YthdhakpmhndbfaaK13
import Derived.Test.YthdhakpmhndbfaaK14
import Derived.Test.YthdhakpmhndbfaaK15
import Derived.Test.YthdhakpmhndbfaaK16
import Derived.Test.YthdhakpmhndbfaaK17
import Derived.Test.YthdhakpmhndbfaaK18
namespace Go.Proofs.Ythdhakpmhndbfaa
open Go.RowKit Go.Shelf
attribute [local go_sem] Oper.semAt_some run_field1 run_field0

theorem Blk.put12 {W : World} {B : Nat} {a0 a1 a2 a3 a4 a5 a6 a7 a8 a9 a10 a11 : Value} {t : TypeId} (h0 : Blk W B #[a0, a1, a2, a3, a4, a5, a6, a7, a8, a9, a10, a11] t) (b0 b1 b2 b3 b4 b5 b6 b7 b8 b9 b10 b11 : Value) : Blk ((((((((((((W.setCell ⟨B, 0, none⟩ b0).setCell ⟨B, 1, none⟩ b1).setCell ⟨B, 2, none⟩ b2).setCell ⟨B, 3, none⟩ b3).setCell ⟨B, 4, none⟩ b4).setCell ⟨B, 5, none⟩ b5).setCell ⟨B, 6, none⟩ b6).setCell ⟨B, 7, none⟩ b7).setCell ⟨B, 8, none⟩ b8).setCell ⟨B, 9, none⟩ b9).setCell ⟨B, 10, none⟩ b10).setCell ⟨B, 11, none⟩ b11) B #[b0, b1, b2, b3, b4, b5, b6, b7, b8, b9, b10, b11] t := by
  have h1 : Blk (W.setCell ⟨B, 0, none⟩ b0) B #[b0, a1, a2, a3, a4, a5, a6, a7, a8, a9, a10, a11] t := h0.set_eq 0 b0 rfl
  have h2 : Blk ((W.setCell ⟨B, 0, none⟩ b0).setCell ⟨B, 1, none⟩ b1) B #[b0, b1, a2, a3, a4, a5, a6, a7, a8, a9, a10, a11] t := h1.set_eq 1 b1 rfl
  have h3 : Blk (((W.setCell ⟨B, 0, none⟩ b0).setCell ⟨B, 1, none⟩ b1).setCell ⟨B, 2, none⟩ b2) B #[b0, b1, b2, a3, a4, a5, a6, a7, a8, a9, a10, a11] t := h2.set_eq 2 b2 rfl
  have h4 : Blk ((((W.setCell ⟨B, 0, none⟩ b0).setCell ⟨B, 1, none⟩ b1).setCell ⟨B, 2, none⟩ b2).setCell ⟨B, 3, none⟩ b3) B #[b0, b1, b2, b3, a4, a5, a6, a7, a8, a9, a10, a11] t := h3.set_eq 3 b3 rfl
  have h5 : Blk (((((W.setCell ⟨B, 0, none⟩ b0).setCell ⟨B, 1, none⟩ b1).setCell ⟨B, 2, none⟩ b2).setCell ⟨B, 3, none⟩ b3).setCell ⟨B, 4, none⟩ b4) B #[b0, b1, b2, b3, b4, a5, a6, a7, a8, a9, a10, a11] t := h4.set_eq 4 b4 rfl
  have h6 : Blk ((((((W.setCell ⟨B, 0, none⟩ b0).setCell ⟨B, 1, none⟩ b1).setCell ⟨B, 2, none⟩ b2).setCell ⟨B, 3, none⟩ b3).setCell ⟨B, 4, none⟩ b4).setCell ⟨B, 5, none⟩ b5) B #[b0, b1, b2, b3, b4, b5, a6, a7, a8, a9, a10, a11] t := h5.set_eq 5 b5 rfl
  have h7 : Blk (((((((W.setCell ⟨B, 0, none⟩ b0).setCell ⟨B, 1, none⟩ b1).setCell ⟨B, 2, none⟩ b2).setCell ⟨B, 3, none⟩ b3).setCell ⟨B, 4, none⟩ b4).setCell ⟨B, 5, none⟩ b5).setCell ⟨B, 6, none⟩ b6) B #[b0, b1, b2, b3, b4, b5, b6, a7, a8, a9, a10, a11] t := h6.set_eq 6 b6 rfl
  have h8 : Blk ((((((((W.setCell ⟨B, 0, none⟩ b0).setCell ⟨B, 1, none⟩ b1).setCell ⟨B, 2, none⟩ b2).setCell ⟨B, 3, none⟩ b3).setCell ⟨B, 4, none⟩ b4).setCell ⟨B, 5, none⟩ b5).setCell ⟨B, 6, none⟩ b6).setCell ⟨B, 7, none⟩ b7) B #[b0, b1, b2, b3, b4, b5, b6, b7, a8, a9, a10, a11] t := h7.set_eq 7 b7 rfl
  have h9 : Blk (((((((((W.setCell ⟨B, 0, none⟩ b0).setCell ⟨B, 1, none⟩ b1).setCell ⟨B, 2, none⟩ b2).setCell ⟨B, 3, none⟩ b3).setCell ⟨B, 4, none⟩ b4).setCell ⟨B, 5, none⟩ b5).setCell ⟨B, 6, none⟩ b6).setCell ⟨B, 7, none⟩ b7).setCell ⟨B, 8, none⟩ b8) B #[b0, b1, b2, b3, b4, b5, b6, b7, b8, a9, a10, a11] t := h8.set_eq 8 b8 rfl
  have h10 : Blk ((((((((((W.setCell ⟨B, 0, none⟩ b0).setCell ⟨B, 1, none⟩ b1).setCell ⟨B, 2, none⟩ b2).setCell ⟨B, 3, none⟩ b3).setCell ⟨B, 4, none⟩ b4).setCell ⟨B, 5, none⟩ b5).setCell ⟨B, 6, none⟩ b6).setCell ⟨B, 7, none⟩ b7).setCell ⟨B, 8, none⟩ b8).setCell ⟨B, 9, none⟩ b9) B #[b0, b1, b2, b3, b4, b5, b6, b7, b8, b9, a10, a11] t := h9.set_eq 9 b9 rfl
  have h11 : Blk (((((((((((W.setCell ⟨B, 0, none⟩ b0).setCell ⟨B, 1, none⟩ b1).setCell ⟨B, 2, none⟩ b2).setCell ⟨B, 3, none⟩ b3).setCell ⟨B, 4, none⟩ b4).setCell ⟨B, 5, none⟩ b5).setCell ⟨B, 6, none⟩ b6).setCell ⟨B, 7, none⟩ b7).setCell ⟨B, 8, none⟩ b8).setCell ⟨B, 9, none⟩ b9).setCell ⟨B, 10, none⟩ b10) B #[b0, b1, b2, b3, b4, b5, b6, b7, b8, b9, b10, a11] t := h10.set_eq 10 b10 rfl
  have h12 : Blk ((((((((((((W.setCell ⟨B, 0, none⟩ b0).setCell ⟨B, 1, none⟩ b1).setCell ⟨B, 2, none⟩ b2).setCell ⟨B, 3, none⟩ b3).setCell ⟨B, 4, none⟩ b4).setCell ⟨B, 5, none⟩ b5).setCell ⟨B, 6, none⟩ b6).setCell ⟨B, 7, none⟩ b7).setCell ⟨B, 8, none⟩ b8).setCell ⟨B, 9, none⟩ b9).setCell ⟨B, 10, none⟩ b10).setCell ⟨B, 11, none⟩ b11) B #[b0, b1, b2, b3, b4, b5, b6, b7, b8, b9, b10, b11] t := h11.set_eq 11 b11 rfl
  exact h12

theorem row12 {W : World} {B : Nat} {q r s : V4} {T : TypeId} (h : Blk W B #[.int .i64 q.a, .int .i64 q.b, .int .i64 q.c, .int .i64 q.d, .int .i64 r.a, .int .i64 r.b, .int .i64 r.c, .int .i64 r.d, .int .i64 s.a, .int .i64 s.b, .int .i64 s.c, .int .i64 s.d] T) {i k : Nat} (hi : i < 3) (hk : k < 4) : W.cell? ⟨B, i * 4 + k, none⟩ = some (.int .i64 (vg (row3 q r s i) k)) := by
  have h3 : i = 0 ∨ i = 1 ∨ i = 2 := by omega
  have h4 : k = 0 ∨ k = 1 ∨ k = 2 ∨ k = 3 := by omega
  rcases h3 with rfl | rfl | rfl <;> rcases h4 with rfl | rfl | rfl | rfl <;> exact h.cell rfl
/-- Four numbers of the reference in a block: the first c of them are known. -/
def NumArr (W : World) (B : Nat) (zs : Nat → Int) (c K : Nat) : Prop :=
  ∃ (a : Nat → Bool) (p : Nat → Option Addr) (n ca : Nat → Nat) (xs : Nat → List Nat), Blk W B #[.bool (a 0), .slice (p 0) (n 0) (ca 0), .bool (a 1), .slice (p 1) (n 1) (ca 1), .bool (a 2), .slice (p 2) (n 2) (ca 2), .bool (a 3), .slice (p 3) (n 3) (ca 3)] 84 ∧ ∀ k, k < c → RIs W (a k) (p k) (n k) (ca k) (xs k) (zs k) ∧ n k ≤ K
theorem NumArr.below {W W' : World} {B c K : Nat} {zs : Nat → Int} (h : NumArr W B zs c K) (hb : Below W.heap.size W W') : NumArr W' B zs c K := by
  obtain ⟨a, p, n, ca, xs, kB, hx⟩ := h
  exact ⟨a, p, n, ca, xs, kB.kept hb, fun k hk => ⟨(hx k hk).1.below hb, (hx k hk).2⟩⟩
theorem Rd.other {q : IntKind} {W : World} {p : Option Addr} {n : Nat} {xs : List Nat} {B : Nat} {cs : Array Value} {T : TypeId} (h : Rd q W p n xs) (hB : Blk W B cs T) (hno : ∀ (i : Nat) (v : Value), cs[i]? = some v → ∀ q x, v ≠ .int q x) (i : Nat) (v : Value) : Rd q (W.setCell ⟨B, i, none⟩ v) p n xs := by
  refine ⟨h.1, fun j hj => ?_⟩
  obtain ⟨b, off, hp, hlt, hc⟩ := h.2 j hj
  have hne : b ≠ B := by
    intro e
    subst e
    unfold Blk at hB
    unfold World.cell? at hc
    rw [hB] at hc
    simp at hc
    exact hno _ _ hc _ _ rfl
  exact ⟨b, off, hp, by simpa [World.setCell] using hlt, by rw [World.cell?_setCell_other _ _ _ _ (by intro e; cases e; exact hne rfl)]; exact hc⟩
theorem numCells_no (a : Nat → Bool) (p : Nat → Option Addr) (n ca : Nat → Nat) : ∀ (i : Nat) (v : Value), (#[.bool (a 0), .slice (p 0) (n 0) (ca 0), .bool (a 1), .slice (p 1) (n 1) (ca 1), .bool (a 2), .slice (p 2) (n 2) (ca 2), .bool (a 3), .slice (p 3) (n 3) (ca 3)] : Array Value)[i]? = some v → ∀ q x, v ≠ .int q x := by
  intro i v h q x e
  subst e
  match i, h with
  | 0, h => cases h
  | 1, h => cases h
  | 2, h => cases h
  | 3, h => cases h
  | 4, h => cases h
  | 5, h => cases h
  | 6, h => cases h
  | 7, h => cases h
  | i + 8, h => simp at h
theorem sgnZ_eq (z : Int) : (sgnZ z == 0) = decide (z = 0) := by
  unfold sgnZ
  by_cases h : z = 0
  · rw [decide_eq_true h, h]; rfl
  · rw [decide_eq_false h]
    by_cases h1 : z < 0
    · simp [h1]
    · have h2 : 0 < z := by omega
      simp [h1, h2]
theorem NumArr.ris {W : World} {B c K : Nat} {zs : Nat → Int} (h : NumArr W B zs c K) {neg : Bool} {p : Option Addr} {n ca : Nat} {xs : List Nat} {z : Int} (hr : RIs W neg p n ca xs z) (i : Nat) (v : Value) : RIs (W.setCell ⟨B, i, none⟩ v) neg p n ca xs z := by
  obtain ⟨a, p', n', ca', xs', kB, hx⟩ := h
  exact { hr with rd := hr.rd.other kB (numCells_no a p' n' ca') i v }
theorem RIs.other2 {W : World} {B j : Nat} {a : Nat → Bool} {p : Nat → Option Addr} {n ca : Nat → Nat} {T : TypeId} (hj : j < 4) (kB : Blk W B #[.bool (a 0), .slice (p 0) (n 0) (ca 0), .bool (a 1), .slice (p 1) (n 1) (ca 1), .bool (a 2), .slice (p 2) (n 2) (ca 2), .bool (a 3), .slice (p 3) (n 3) (ca 3)] T) {neg : Bool} {p' : Option Addr} {n' ca' : Nat} {xs : List Nat} {z : Int} (hr : RIs W neg p' n' ca' xs z) (b : Bool) (q : Option Addr) (m c : Nat) :
    RIs ((W.setCell ⟨B, j * 2, none⟩ (.bool b)).setCell ⟨B, j * 2 + 1, none⟩ (.slice q m c)) neg p' n' ca' xs z ∧ Blk ((W.setCell ⟨B, j * 2, none⟩ (.bool b)).setCell ⟨B, j * 2 + 1, none⟩ (.slice q m c)) B #[.bool (if 0 = j then b else a 0), .slice (if 0 = j then q else p 0) (if 0 = j then m else n 0) (if 0 = j then c else ca 0), .bool (if 1 = j then b else a 1), .slice (if 1 = j then q else p 1) (if 1 = j then m else n 1) (if 1 = j then c else ca 1), .bool (if 2 = j then b else a 2), .slice (if 2 = j then q else p 2) (if 2 = j then m else n 2) (if 2 = j then c else ca 2), .bool (if 3 = j then b else a 3), .slice (if 3 = j then q else p 3) (if 3 = j then m else n 3) (if 3 = j then c else ca 3)] T := by
  have h1 := hr.rd.other kB (numCells_no a p n ca) (j * 2) (.bool b)
  have h4 : j = 0 ∨ j = 1 ∨ j = 2 ∨ j = 3 := by omega
  rcases h4 with rfl | rfl | rfl | rfl
  · have k2 := kB.set_eq 0 (.bool b) rfl
    exact ⟨{ hr with rd := h1.other k2 (numCells_no (fun k => if k = 0 then b else a k) p n ca) 1 (.slice q m c) }, k2.set_eq 1 _ rfl⟩
  · have k2 := kB.set_eq 2 (.bool b) rfl
    exact ⟨{ hr with rd := h1.other k2 (numCells_no (fun k => if k = 1 then b else a k) p n ca) 3 (.slice q m c) }, k2.set_eq 3 _ rfl⟩
  · have k2 := kB.set_eq 4 (.bool b) rfl
    exact ⟨{ hr with rd := h1.other k2 (numCells_no (fun k => if k = 2 then b else a k) p n ca) 5 (.slice q m c) }, k2.set_eq 5 _ rfl⟩
  · have k2 := kB.set_eq 6 (.bool b) rfl
    exact ⟨{ hr with rd := h1.other k2 (numCells_no (fun k => if k = 3 then b else a k) p n ca) 7 (.slice q m c) }, k2.set_eq 7 _ rfl⟩
theorem NumArr.ris2 {W : World} {B c K : Nat} {zs : Nat → Int} (h : NumArr W B zs c K) {j : Nat} (hj : j < 4) {neg : Bool} {p' : Option Addr} {n' ca' : Nat} {xs : List Nat} {z : Int} (hr : RIs W neg p' n' ca' xs z) (b : Bool) (q : Option Addr) (m c' : Nat) :
    RIs ((W.setCell ⟨B, j * 2, none⟩ (.bool b)).setCell ⟨B, j * 2 + 1, none⟩ (.slice q m c')) neg p' n' ca' xs z := by
  obtain ⟨a, p, n, ca, xs, kB, hx⟩ := h
  exact (hr.other2 hj kB b q m c').1
theorem NumArr.put {W : World} {B c K : Nat} {zs : Nat → Int} (h : NumArr W B zs c K) {j : Nat} (hj : j < 4) {neg : Bool} {p : Option Addr} {n ca : Nat} {xs : List Nat} {z : Int} (hr : RIs W neg p n ca xs z) (hn : n ≤ K) (c' : Nat) (hc' : ∀ k, k < c' → k = j ∨ k < c) (zs' : Nat → Int) (hz : ∀ k, k < c' → zs' k = if k = j then z else zs k) :
    NumArr ((W.setCell ⟨B, j * 2, none⟩ (.bool neg)).setCell ⟨B, j * 2 + 1, none⟩ (.slice p n ca)) B zs' c' K := by
  obtain ⟨a, p0, n0, ca0, xs0, kB, hx⟩ := h
  refine ⟨fun k => if k = j then neg else a k, fun k => if k = j then p else p0 k, fun k => if k = j then n else n0 k, fun k => if k = j then ca else ca0 k, fun k => if k = j then xs else xs0 k, (hr.other2 hj kB neg p n ca).2, fun k hk => ?_⟩
  rw [hz k hk]
  by_cases hkj : k = j
  · simp only [if_pos hkj]
    exact ⟨(hr.other2 hj kB neg p n ca).1, hn⟩
  · have hkc : k < c := by
      rcases hc' k hk with h | h
      · exact absurd h hkj
      · exact h
    simp only [if_neg hkj]
    exact ⟨((hx k hkc).1.other2 hj kB neg p n ca).1, (hx k hkc).2⟩
theorem NumArr.at {W : World} {B c K : Nat} {zs : Nat → Int} (h : NumArr W B zs c K) {j : Nat} (hj : j < 4) : ∃ neg p n ca, W.cell? ⟨B, j * 2, none⟩ = some (.bool neg) ∧ W.cell? ⟨B, j * 2 + 1, none⟩ = some (.slice p n ca) ∧ W.frozen? ⟨B, j * 2, none⟩ = false ∧ W.frozen? ⟨B, j * 2 + 1, none⟩ = false ∧ (j < c → ∃ xs, RIs W neg p n ca xs (zs j) ∧ n ≤ K) := by
  obtain ⟨a, p, n, ca, xs, kB, hx⟩ := h
  refine ⟨a j, p j, n j, ca j, ?_, ?_, kB.frozen _, kB.frozen _, fun hc => ⟨xs j, hx j hc⟩⟩
  · have h4 : j = 0 ∨ j = 1 ∨ j = 2 ∨ j = 3 := by omega
    rcases h4 with rfl | rfl | rfl | rfl <;> exact kB.cell rfl
  · have h4 : j = 0 ∨ j = 1 ∨ j = 2 ∨ j = 3 := by omega
    rcases h4 with rfl | rfl | rfl | rfl <;> exact kB.cell rfl
theorem row3_in {q r s : V4} (hq : InV q) (hr : InV r) (hs : InV s) (i : Nat) : InV (row3 q r s i) := by
  unfold row3; split
  · exact hq
  · exact hr
  · exact hs

def rthrE (p q r : V4) : Int := if zero3 p q r then 4 else errE (decide (thrOk p q r)) 2
def rthrP (p q r : V4) : V4 := if zero3 p q r then ⟨0, 0, 0, 0⟩ else if thrOk p q r then thrL p q r else ⟨0, 0, 0, 0⟩

set_option maxRecDepth 100000 in
set_option maxHeartbeats 8000000 in
theorem rthr_any (q r s : V4) (w : World) (hq : InV q) (hr : InV r) (hs : InV s) :
    Calls Try.prog 26 #[.agg #[.int .i64 q.a, .int .i64 q.b, .int .i64 q.c, .int .i64 q.d], .agg #[.int .i64 r.a, .int .i64 r.b, .int .i64 r.c, .int .i64 r.d], .agg #[.int .i64 s.a, .int .i64 s.b, .int .i64 s.c, .int .i64 s.d]] w fun e w' => e = .returned (.tuple #[.agg #[.int .i64 (rthrP q r s).a, .int .i64 (rthrP q r s).b, .int .i64 (rthrP q r s).c, .int .i64 (rthrP q r s).d], .int .i64 (rthrE q r s)]) ∧ Below w.heap.size w w' := by
  have HIN := Lib.hid (fun i => row3_in hq hr hs i)
  go_enter Try.func26, Try.ntmps26
  obtain ⟨w1, hw1⟩ : ∃ w1, ((((w.alloc (.cells #[.int .i64 q.a, .int .i64 q.b, .int .i64 q.c, .int .i64 q.d] 37)).alloc (.cells #[.int .i64 r.a, .int .i64 r.b, .int .i64 r.c, .int .i64 r.d] 37)).alloc (.cells #[.int .i64 s.a, .int .i64 s.b, .int .i64 s.c, .int .i64 s.d] 37)).alloc (.cells #[.int .i64 0, .int .i64 0, .int .i64 0, .int .i64 0] 23)) = w1 := ⟨_, rfl⟩
  have hb : Below w.heap.size w w1 := by rw [← hw1]; exact bw4 w _ _ _ _
  have e1 : w1.heap.size = w.heap.size + 1 + 1 + 1 + 1 := by rw [← hw1]; simp
  have kq : Blk w1 (w.heap.size) #[.int .i64 q.a, .int .i64 q.b, .int .i64 q.c, .int .i64 q.d] 37 := by rw [← hw1]; exact (((Blk.new w _ _).alloc _).alloc _).alloc _
  have kr : Blk w1 (w.heap.size + 1) #[.int .i64 r.a, .int .i64 r.b, .int .i64 r.c, .int .i64 r.d] 37 := by rw [← hw1]; exact ((Blk.new' _ _ _ (by simp)).alloc _).alloc _
  have ks : Blk w1 (w.heap.size + 1 + 1) #[.int .i64 s.a, .int .i64 s.b, .int .i64 s.c, .int .i64 s.d] 37 := by rw [← hw1]; exact (Blk.new' _ _ _ (by simp)).alloc _
  have kP : Blk w1 (w.heap.size + 1 + 1 + 1) #[.int .i64 0, .int .i64 0, .int .i64 0, .int .i64 0] 23 := by rw [← hw1]; exact Blk.new' _ _ _ (by simp)
  obtain ⟨w2, hw2⟩ : ∃ x, w1.alloc (.cells #[.int .i64 0, .int .i64 0, .int .i64 0, .int .i64 0, .int .i64 0, .int .i64 0, .int .i64 0, .int .i64 0, .int .i64 0, .int .i64 0, .int .i64 0, .int .i64 0] 94) = x := ⟨_, rfl⟩
  have kz : Blk w2 w1.heap.size #[.int .i64 0, .int .i64 0, .int .i64 0, .int .i64 0, .int .i64 0, .int .i64 0, .int .i64 0, .int .i64 0, .int .i64 0, .int .i64 0, .int .i64 0, .int .i64 0] 94 := by rw [← hw2]; exact Blk.new _ _ _
  rw [e1] at kz
  obtain ⟨w3, hw3⟩ : ∃ x, ((((((((((((w2.setCell ⟨w.heap.size + 1 + 1 + 1 + 1, 0, none⟩ (.int .i64 q.a)).setCell ⟨w.heap.size + 1 + 1 + 1 + 1, 1, none⟩ (.int .i64 q.b)).setCell ⟨w.heap.size + 1 + 1 + 1 + 1, 2, none⟩ (.int .i64 q.c)).setCell ⟨w.heap.size + 1 + 1 + 1 + 1, 3, none⟩ (.int .i64 q.d)).setCell ⟨w.heap.size + 1 + 1 + 1 + 1, 4, none⟩ (.int .i64 r.a)).setCell ⟨w.heap.size + 1 + 1 + 1 + 1, 5, none⟩ (.int .i64 r.b)).setCell ⟨w.heap.size + 1 + 1 + 1 + 1, 6, none⟩ (.int .i64 r.c)).setCell ⟨w.heap.size + 1 + 1 + 1 + 1, 7, none⟩ (.int .i64 r.d)).setCell ⟨w.heap.size + 1 + 1 + 1 + 1, 8, none⟩ (.int .i64 s.a)).setCell ⟨w.heap.size + 1 + 1 + 1 + 1, 9, none⟩ (.int .i64 s.b)).setCell ⟨w.heap.size + 1 + 1 + 1 + 1, 10, none⟩ (.int .i64 s.c)).setCell ⟨w.heap.size + 1 + 1 + 1 + 1, 11, none⟩ (.int .i64 s.d)) = x := ⟨_, rfl⟩
  have h2 : Below w1.heap.size w1 w2 := by rw [← hw2]; exact (Below.refl _ _).alloc (Nat.le_refl _) _
  have h3 : Below w1.heap.size w1 w3 := by rw [← hw3]; exact ((((((((((((h2.setCell (by simp only; omega) _).setCell (by simp only; omega) _).setCell (by simp only; omega) _).setCell (by simp only; omega) _).setCell (by simp only; omega) _).setCell (by simp only; omega) _).setCell (by simp only; omega) _).setCell (by simp only; omega) _).setCell (by simp only; omega) _).setCell (by simp only; omega) _).setCell (by simp only; omega) _).setCell (by simp only; omega) _)
  have kC : Blk w3 (w.heap.size + 1 + 1 + 1 + 1) #[.int .i64 q.a, .int .i64 q.b, .int .i64 q.c, .int .i64 q.d, .int .i64 r.a, .int .i64 r.b, .int .i64 r.c, .int .i64 r.d, .int .i64 s.a, .int .i64 s.b, .int .i64 s.c, .int .i64 s.d] 94 := by rw [← hw3]; exact Blk.put12 kz _ _ _ _ _ _ _ _ _ _ _ _
  obtain ⟨w4, hw4⟩ : ∃ x, w3.alloc (.cells #[.bool false, .slice none 0 0, .bool false, .slice none 0 0, .bool false, .slice none 0 0, .bool false, .slice none 0 0] 84) = x := ⟨_, rfl⟩
  have h4 : Below w3.heap.size w3 w4 := by rw [← hw4]; exact (Below.refl _ _).alloc (Nat.le_refl _) _
  have kX : Blk w4 w3.heap.size #[.bool false, .slice none 0 0, .bool false, .slice none 0 0, .bool false, .slice none 0 0, .bool false, .slice none 0 0] 84 := by rw [← hw4]; exact Blk.new _ _ _
  have kC3 := kC
  have kC := kC.kept h4
  have kP := (kP.kept h3).kept h4
  have hb4 := (hb.trans (h3.mono hb.size)).trans (h4.mono (hb.trans (h3.mono hb.size)).size)
  have cq0 := kq.cell (i := 0) rfl
  have cq1 := kq.cell (i := 1) rfl
  have cq2 := kq.cell (i := 2) rfl
  have cq3 := kq.cell (i := 3) rfl
  have cr0 := kr.cell (i := 0) rfl
  have cr1 := kr.cell (i := 1) rfl
  have cr2 := kr.cell (i := 2) rfl
  have cr3 := kr.cell (i := 3) rfl
  have cs0 := ks.cell (i := 0) rfl
  have cs1 := ks.cell (i := 1) rfl
  have cs2 := ks.cell (i := 2) rfl
  have cs3 := ks.cell (i := 3) rfl
  have cz0 := kz.cell (i := 0) rfl
  have cz1 := kz.cell (i := 1) rfl
  have cz2 := kz.cell (i := 2) rfl
  have cz3 := kz.cell (i := 3) rfl
  have cz4 := kz.cell (i := 4) rfl
  have cz5 := kz.cell (i := 5) rfl
  have cz6 := kz.cell (i := 6) rfl
  have cz7 := kz.cell (i := 7) rfl
  have cz8 := kz.cell (i := 8) rfl
  have cz9 := kz.cell (i := 9) rfl
  have cz10 := kz.cell (i := 10) rfl
  have cz11 := kz.cell (i := 11) rfl
  have fz0 := kz.frozen 0
  have fz1 := kz.frozen 1
  have fz2 := kz.frozen 2
  have fz3 := kz.frozen 3
  have fz4 := kz.frozen 4
  have fz5 := kz.frozen 5
  have fz6 := kz.frozen 6
  have fz7 := kz.frozen 7
  have fz8 := kz.frozen 8
  have fz9 := kz.frozen 9
  have fz10 := kz.frozen 10
  have fz11 := kz.frozen 11
  go_upto_region 3 with fail
  clear cq0 cr0 cs0 cq1 cr1 cs1 cq2 cr2 cs2 cq3 cr3 cs3 cz0 fz0 cz1 fz1 cz2 fz2 cz3 fz3 cz4 fz4 cz5 fz5 cz6 fz6 cz7 fz7 cz8 fz8 cz9 fz9 cz10 fz10 cz11 fz11
  obtain ⟨BX, hBX⟩ : ∃ b, w3.heap.size = b := ⟨_, rfl⟩
  have hltX : w.heap.size + 1 + 1 + 1 + 1 < BX := by rw [← hBX]; exact kC3.lt
  rw [hBX] at kX ⊢
  clear hw1 hw2 hw3 hw4 h2 h3 h4 hb e1 kq kr ks kz hBX kC3
  have HX0 : NumArr w4 BX (thrZ q r s) 0 300 := ⟨fun _ => false, fun _ => none, fun _ => 0, fun _ => 0, fun _ => [], kX, fun k hk => absurd hk (by omega)⟩
  clear kX
  go_wp2_with fail
  go_loopg [10] 4 (fun gk v10 wr => ∃ c : Nat, c ≤ 4 ∧ gk = 4 - c ∧ v10 = .int .i64 (c : Int) ∧ NumArr wr BX (thrZ q r s) c 300 ∧ Blk wr (w.heap.size + 1 + 1 + 1 + 1) #[.int .i64 q.a, .int .i64 q.b, .int .i64 q.c, .int .i64 q.d, .int .i64 r.a, .int .i64 r.b, .int .i64 r.c, .int .i64 r.d, .int .i64 s.a, .int .i64 s.b, .int .i64 s.c, .int .i64 s.d] 94 ∧ Blk wr (w.heap.size + 1 + 1 + 1) #[.int .i64 0, .int .i64 0, .int .i64 0, .int .i64 0] 23 ∧ Below w.heap.size w wr)
  case atStart => exact ⟨0, by decide, rfl, rfl, HX0, kC, kP, hb4⟩
  case round =>
    clear HX0 kC kP hb4
    obtain ⟨c, hc, hgk, rfl, HX, kC, kP, hb⟩ := hrel
    have HGK := Lib.hid hgk
    clear hgk
    by_cases hc4 : c < 4
    · have hci : (c : Int) < 4 := by omega
      have HXH := Lib.hid HX
      clear HX
      generalize wr = wo at *
      go_wp2_with fail
      go_loopg [11, 12] 3 (fun gk v11 v12 wx => ∃ (i : Nat) (p3 : Option Addr) (c3 : Nat), i ≤ 3 ∧ gk = 3 - i ∧ v12 = .int .i64 (i : Int) ∧ v11 = .slice p3 i c3 ∧ Hid (GrMN wx wo.heap.size v11 (rowsV q r s c i) 60) ∧ Below wo.heap.size wo wx)
      case atStart => exact ⟨0, none, 0, by decide, rfl, rfl, rfl, GrMN.nil _ _ _, Below.refl _ _⟩
      case round =>
        generalize wr = wx at *
        obtain ⟨i, p3, c3, hi, hgk2, rfl, rfl, HG, hbx⟩ := hrel
        have HGK2 := Lib.hid hgk2
        clear hgk2
        by_cases hi3 : i < 3
        · have hii : (i : Int) < 3 := by omega
          go_wp2_with fail
          go_loopg [13, 14] 4 (fun gk v13 v14 wy => ∃ (k : Nat) (p5 : Option Addr) (c5 : Nat), k ≤ 4 ∧ gk = 4 - k ∧ v14 = .int .i64 (k : Int) ∧ v13 = .slice p5 (cutV (row3 q r s i) c k).length c5 ∧ Hid (GrNum wy wx.heap.size v13 (cutV (row3 q r s i) c k) 60) ∧ Below wx.heap.size wx wy)
          case atStart => exact ⟨0, none, 0, by decide, rfl, rfl, rfl, GrNum.nil _ _ _, Below.refl _ _⟩
          case round =>
            generalize wr = wy at *
            obtain ⟨k, p5, c5, hk, hgk3, rfl, rfl, HN, hby⟩ := hrel
            have HGK3 := Lib.hid hgk3
            clear hgk3
            have hsl := cutV_le (row3 q r s i) c k
            obtain ⟨L5, hL5⟩ : ∃ l, (cutV (row3 q r s i) c k).length = l := ⟨_, rfl⟩
            have HL5 := Lib.hid hL5
            rw [hL5] at HN hsl ⊢
            clear hL5
            by_cases hk4 : k < 4
            · have hki : (k : Int) < 4 := by omega
              by_cases hkc : k = c
              · have hkc1 : ((k : Int) == (c : Int)) = true := by simp; omega
                have hkc2 : ((k : Int) != (c : Int)) = false := by simp; omega
                subst hkc
                go_wp2_with fail
                go_roundg (4 - (k + 1))
                case measure => rw [HGK3.out]; omega
                case rel =>
                  rw [← cutV_skip] at HN
                  exact ⟨k + 1, p5, c5, by omega, rfl, by go_num, by rw [cutV_skip, HL5.out], HN, hby⟩
              · have hkc1 : ((k : Int) == (c : Int)) = false := by simp; omega
                have hkc2 : ((k : Int) != (c : Int)) = true := by simp; omega
                have kCy := ((kC.kept hbx).kept hby)
                have hcell := row12 kCy hi3 hk4
                have hin := HIN.out i
                have hvg := vg_in hin k
                obtain ⟨z, hz⟩ : ∃ z, vg (row3 q r s i) k = z := ⟨_, rfl⟩
                rw [hz] at hcell hvg
                have HZ := Lib.hid hz
                have HKC := Lib.hid hkc
                clear hz hin hkc
                go_wp2_with fail
                refine (from_any z hvg.1 (by have := hvg.2; omega) _).mono ?_
                rintro e w5 ⟨ng5, p5', n5, c5', xs5, rfl, hx5, hn5, hb5⟩
                have hgn := HN.out.below hb5
                have hby5 := hby.trans (hb5.mono hby.size)
                go_wp2_with (at_builtin; refine pushNum_law rfl _ _ rfl rfl hgn hx5 (by omega) rfl (by rw [HL5.out]; omega) hby5.size ?_; intro v' w' hgn' hb6)
                go_roundg (4 - (k + 1))
                case measure => rw [HGK3.out]; omega
                case rel =>
                  rw [← HZ.out, ← cutV_snoc _ HKC.out] at hgn'
                  obtain ⟨p', c', hv', _⟩ := hgn'.rd
                  exact ⟨k + 1, p', c', by omega, rfl, by go_num, hv', hgn', hby5.trans hb6⟩
            · have hki : ¬ (k : Int) < 4 := by omega
              obtain rfl : k = 4 := by omega
              have h3 : L5 = 3 := by rw [← HL5.out]; exact cutV_len _ hc4
              subst h3
              obtain ⟨p6, c6, hv6, hc6, hnr⟩ := HN.out.rd
              rw [HL5.out] at hv6 hc6
              cases hv6
              have hbxy := hbx.trans (hby.mono hbx.size)
              have hgm := HG.out.below hby
              have hri := rowsV_len q r s c i
              have HSN := Lib.hid (rowsV_snoc q r s c i)
              have HRI := Lib.hid hri
              clear hri
              go_wp2_with (at_builtin; refine pushNRow_law rfl _ _ rfl rfl hgm HL5.out hc6 hnr rfl (by rw [HRI.out]; omega) hbxy.size ?_; intro v' w' hgm' hb6)
              go_roundg (3 - (i + 1))
              case measure => rw [HGK2.out]; omega
              case rel =>
                rw [← HSN.out] at hgm'
                obtain ⟨p', c', hv', _⟩ := hgm'.rd
                rw [rowsV_len] at hv'
                exact ⟨i + 1, p', c', by omega, rfl, by go_num, hv', hgm', hbxy.trans hb6⟩
        · have hii : ¬ (i : Int) < 3 := by omega
          obtain rfl : i = 3 := by omega
          obtain ⟨p6, c6, hv6, hc6, hnr⟩ := HG.out.rd
          rw [rowsV_len] at hv6 hc6
          cases hv6
          have hdet := rdet_any 3 (by decide) p3 c3 (rowsV q r s c 3) wx (rowsV_len q r s c 3) (rowsV_all q r s hc4 3) hnr
          have HDT := Lib.hid hdet
          clear hdet hnr
          go_wp2_with fail
          refine (HDT.out).mono ?_
          rintro e w5 ⟨ng5, p5', n5, c5', xs5, rfl, hx5, hn5, hb5⟩
          have hb5x := hbx.trans (hb5.mono hbx.size)
          have HA := HXH.out.below hb5x
          have kC := kC.kept hb5x
          have kP := kP.kept hb5x
          have hb := hb.trans (hb5x.mono hb.size)
          have hn5 : n5 ≤ 300 := Nat.le_trans hn5 (by decide)
          obtain ⟨g6, p6, n6, c6, e0, e1, f0, f1, _⟩ := HA.at hc4
          have HAH := Lib.hid HA
          have HR5 := Lib.hid hx5
          clear HXH HDT HA hx5
          by_cases hodd : c % 2 = 1
          · have o1 : ((c : Int) % 2 == 1) = true := by simp; omega
            have HODD := Lib.hid hodd
            clear hodd
            go_wp2_with fail
            have hA6 := HAH.out.put hc4 HR5.out hn5 (c + 1) (fun k hk => by omega) (fun k => if k = c then detV q r s c else thrZ q r s k) (fun k hk => rfl)
            have hr6 := HAH.out.ris2 hc4 HR5.out ng5 p5' n5 c5'
            have hb6 := (hb.setCell (p := ⟨BX, c * 2, none⟩) (by simp only; omega) (.bool ng5)).setCell (p := ⟨BX, c * 2 + 1, none⟩) (by simp only; omega) (.slice p5' n5 c5')
            have kC6 := (kC.other (C := BX) (c * 2) (.bool ng5) (by omega)).other (C := BX) (c * 2 + 1) (.slice p5' n5 c5') (by omega)
            have kP6 := (kP.other (C := BX) (c * 2) (.bool ng5) (by omega)).other (C := BX) (c * 2 + 1) (.slice p5' n5 c5') (by omega)
            obtain ⟨w6, hw6⟩ : ∃ w', ((w5.setCell ⟨BX, c * 2, none⟩ (.bool ng5)).setCell ⟨BX, c * 2 + 1, none⟩ (.slice p5' n5 c5')) = w' := ⟨_, rfl⟩
            rw [hw6] at hA6 hr6 hb6 kC6 kP6 ⊢
            clear hw6 kC kP hb HAH HR5 e0 e1 f0 f1
            refine (rneg_any ng5 p5' n5 c5' xs5 _ _ (by omega) hr6).mono ?_
            rintro e w7 ⟨ng7, p7, n7, c7, xs7, rfl, hx7, hn7, hb7⟩
            have hA7 := hA6.below hb7
            have kC := kC6.kept hb7
            have kP := kP6.kept hb7
            have hb := hb6.trans (hb7.mono hb6.size)
            obtain ⟨g8, p8, n8, c8, e0, e1, f0, f1, _⟩ := hA7.at hc4
            have HA7 := Lib.hid hA7
            have HR7 := Lib.hid hx7
            clear hA7 hx7 hA6 hr6 kC6 kP6 hb6 hb7
            go_wp2_with fail
            go_roundg (4 - (c + 1))
            case measure => rw [HGK.out]; omega
            case rel =>
              refine ⟨c + 1, by omega, rfl, by go_num, HA7.out.put hc4 HR7.out (by omega) (c + 1) (fun k hk => by omega) _ (fun k hk => ?_), (kC.other _ _ (by omega)).other _ _ (by omega), (kP.other _ _ (by omega)).other _ _ (by omega), (hb.setCell (by simp only; omega) _).setCell (by simp only; omega) _⟩
              by_cases e : k = c
              · rw [if_pos e, e]; unfold thrZ; rw [if_pos HODD.out]; rfl
              · rw [if_neg e, if_neg e]
          · have o1 : ((c : Int) % 2 == 1) = false := by simp; omega
            have HODD := Lib.hid hodd
            clear hodd
            go_wp2_with fail
            go_roundg (4 - (c + 1))
            case measure => rw [HGK.out]; omega
            case rel =>
              have hlt := kC.lt
              refine ⟨c + 1, by omega, rfl, by go_num, HAH.out.put hc4 HR5.out hn5 (c + 1) (fun k hk => by omega) _ (fun k hk => ?_), (kC.other _ _ (by omega)).other _ _ (by omega), (kP.other _ _ (by omega)).other _ _ (by omega), (hb.setCell (by simp only; omega) _).setCell (by simp only; omega) _⟩
              by_cases e : k = c
              · rw [if_pos e, e]; unfold thrZ; rw [if_neg HODD.out]; rfl
              · rw [if_neg e]
    · have hci : ¬ (c : Int) < 4 := by omega
      obtain rfl : c = 4 := by omega
      obtain ⟨a, p, n, ca, xs, kX, hx⟩ := HX
      obtain ⟨r0, l0⟩ := hx 0 (by decide)
      obtain ⟨r1, l1⟩ := hx 1 (by decide)
      obtain ⟨r2, l2⟩ := hx 2 (by decide)
      obtain ⟨r3, l3⟩ := hx 3 (by decide)
      rw [thrZ0] at r0
      rw [thrZ1] at r1
      rw [thrZ2] at r2
      rw [thrZ3] at r3
      clear hx
      obtain ⟨a0, ea0⟩ : ∃ v, a 0 = v := ⟨_, rfl⟩
      obtain ⟨a1, ea1⟩ : ∃ v, a 1 = v := ⟨_, rfl⟩
      obtain ⟨a2, ea2⟩ : ∃ v, a 2 = v := ⟨_, rfl⟩
      obtain ⟨a3, ea3⟩ : ∃ v, a 3 = v := ⟨_, rfl⟩
      obtain ⟨p0, ep0⟩ : ∃ v, p 0 = v := ⟨_, rfl⟩
      obtain ⟨p1, ep1⟩ : ∃ v, p 1 = v := ⟨_, rfl⟩
      obtain ⟨p2, ep2⟩ : ∃ v, p 2 = v := ⟨_, rfl⟩
      obtain ⟨p3, ep3⟩ : ∃ v, p 3 = v := ⟨_, rfl⟩
      obtain ⟨n0, en0⟩ : ∃ v, n 0 = v := ⟨_, rfl⟩
      obtain ⟨n1, en1⟩ : ∃ v, n 1 = v := ⟨_, rfl⟩
      obtain ⟨n2, en2⟩ : ∃ v, n 2 = v := ⟨_, rfl⟩
      obtain ⟨n3, en3⟩ : ∃ v, n 3 = v := ⟨_, rfl⟩
      obtain ⟨c0, ec0⟩ : ∃ v, ca 0 = v := ⟨_, rfl⟩
      obtain ⟨c1, ec1⟩ : ∃ v, ca 1 = v := ⟨_, rfl⟩
      obtain ⟨c2, ec2⟩ : ∃ v, ca 2 = v := ⟨_, rfl⟩
      obtain ⟨c3, ec3⟩ : ∃ v, ca 3 = v := ⟨_, rfl⟩
      rw [ea0, ea1, ea2, ea3, ep0, ep1, ep2, ep3, en0, en1, en2, en3, ec0, ec1, ec2, ec3] at kX
      rw [ea0, ep0, en0, ec0] at r0
      rw [ea1, ep1, en1, ec1] at r1
      rw [ea2, ep2, en2, ec2] at r2
      rw [ea3, ep3, en3, ec3] at r3
      rw [en0] at l0
      rw [en1] at l1
      rw [en2] at l2
      rw [en3] at l3
      clear ea0 ea1 ea2 ea3 ep0 ep1 ep2 ep3 en0 en1 en2 en3 ec0 ec1 ec2 ec3
      obtain ⟨X, hX⟩ : ∃ v, crossX q r s = v := ⟨_, rfl⟩
      obtain ⟨Y, hY⟩ : ∃ v, crossY q r s = v := ⟨_, rfl⟩
      obtain ⟨Z, hZ⟩ : ∃ v, crossZ q r s = v := ⟨_, rfl⟩
      obtain ⟨D, hD⟩ : ∃ v, thrD q r s = v := ⟨_, rfl⟩
      rw [hX] at r0
      rw [hY] at r1
      rw [hZ] at r2
      rw [hD] at r3
      have HXYZ := Lib.hid (And.intro hX (And.intro hY (And.intro hZ hD)))
      clear hX hY hZ hD
      have HR := Lib.hid (And.intro r0 (And.intro r1 (And.intro r2 r3)))
      clear r0 r1 r2 r3
      have x0 := kX.cell (i := 0) rfl
      have x1 := kX.cell (i := 1) rfl
      have x2 := kX.cell (i := 2) rfl
      have x3 := kX.cell (i := 3) rfl
      have x4 := kX.cell (i := 4) rfl
      have x5 := kX.cell (i := 5) rfl
      have x6 := kX.cell (i := 6) rfl
      have x7 := kX.cell (i := 7) rfl
      go_upto_region 20 with fail
      go_cut [77] from 62 to 77 (fun v77 wx => v77 = .bool (decide (X = 0 ∧ Y = 0 ∧ Z = 0)) ∧ Below wr.heap.size wr wx)
      case first =>
        by_cases h0 : X = 0
        · have s0 : (sgnZ X == 0) = true := by rw [h0]; rfl
          by_cases h1 : Y = 0
          · have s1 : (sgnZ Y == 0) = true := by rw [h1]; rfl
            have s2 : (sgnZ Z == 0) = decide (Z = 0) := sgnZ_eq Z
            have hz : decide (X = 0 ∧ Y = 0 ∧ Z = 0) = decide (Z = 0) := by rw [h0, h1]; simp
            obtain ⟨b2, hb2⟩ : ∃ b, decide (Z = 0) = b := ⟨_, rfl⟩
            rw [hb2] at s2 hz
            have HZE := Lib.hid hz
            clear h0 h1 hz hb2
            have hbs := Below.refl wr.heap.size wr
            go_wp2_with fail
            refine (rsign_any a0 p0 n0 c0 _ _ _ (by omega) (HR.out.1.below hbs)).mono ?_
            rintro e' ws0 ⟨rfl, hs⟩
            clear x0 x1 x2 x3 x4 x5 x6 x7
            have hbs := hbs.trans (hs.mono hbs.size)
            have kX := kX.kept hs
            clear hs
            have x0 := kX.cell (i := 0) rfl
            have x1 := kX.cell (i := 1) rfl
            have x2 := kX.cell (i := 2) rfl
            have x3 := kX.cell (i := 3) rfl
            have x4 := kX.cell (i := 4) rfl
            have x5 := kX.cell (i := 5) rfl
            have x6 := kX.cell (i := 6) rfl
            have x7 := kX.cell (i := 7) rfl
            go_wp2_with fail
            refine (rsign_any a1 p1 n1 c1 _ _ _ (by omega) (HR.out.2.1.below hbs)).mono ?_
            rintro e' ws1 ⟨rfl, hs⟩
            clear x0 x1 x2 x3 x4 x5 x6 x7
            have hbs := hbs.trans (hs.mono hbs.size)
            have kX := kX.kept hs
            clear hs
            have x0 := kX.cell (i := 0) rfl
            have x1 := kX.cell (i := 1) rfl
            have x2 := kX.cell (i := 2) rfl
            have x3 := kX.cell (i := 3) rfl
            have x4 := kX.cell (i := 4) rfl
            have x5 := kX.cell (i := 5) rfl
            have x6 := kX.cell (i := 6) rfl
            have x7 := kX.cell (i := 7) rfl
            go_wp2_with fail
            refine (rsign_any a2 p2 n2 c2 _ _ _ (by omega) (HR.out.2.2.1.below hbs)).mono ?_
            rintro e' ws2 ⟨rfl, hs⟩
            clear x0 x1 x2 x3 x4 x5 x6 x7
            have hbs := hbs.trans (hs.mono hbs.size)
            have kX := kX.kept hs
            clear hs
            have x0 := kX.cell (i := 0) rfl
            have x1 := kX.cell (i := 1) rfl
            have x2 := kX.cell (i := 2) rfl
            have x3 := kX.cell (i := 3) rfl
            have x4 := kX.cell (i := 4) rfl
            have x5 := kX.cell (i := 5) rfl
            have x6 := kX.cell (i := 6) rfl
            have x7 := kX.cell (i := 7) rfl
            go_wp2_with fail
            go_meet
            case rel => exact ⟨by rw [HZE.out], hbs⟩
          · have s1 : (sgnZ Y == 0) = false := by rw [sgnZ_eq]; exact decide_eq_false h1
            have HZE := Lib.hid (show decide (X = 0 ∧ Y = 0 ∧ Z = 0) = false from decide_eq_false (fun h => h1 h.2.1))
            clear h0 h1
            have hbs := Below.refl wr.heap.size wr
            go_wp2_with fail
            refine (rsign_any a0 p0 n0 c0 _ _ _ (by omega) (HR.out.1.below hbs)).mono ?_
            rintro e' ws0 ⟨rfl, hs⟩
            clear x0 x1 x2 x3 x4 x5 x6 x7
            have hbs := hbs.trans (hs.mono hbs.size)
            have kX := kX.kept hs
            clear hs
            have x0 := kX.cell (i := 0) rfl
            have x1 := kX.cell (i := 1) rfl
            have x2 := kX.cell (i := 2) rfl
            have x3 := kX.cell (i := 3) rfl
            have x4 := kX.cell (i := 4) rfl
            have x5 := kX.cell (i := 5) rfl
            have x6 := kX.cell (i := 6) rfl
            have x7 := kX.cell (i := 7) rfl
            go_wp2_with fail
            refine (rsign_any a1 p1 n1 c1 _ _ _ (by omega) (HR.out.2.1.below hbs)).mono ?_
            rintro e' ws1 ⟨rfl, hs⟩
            clear x0 x1 x2 x3 x4 x5 x6 x7
            have hbs := hbs.trans (hs.mono hbs.size)
            have kX := kX.kept hs
            clear hs
            have x0 := kX.cell (i := 0) rfl
            have x1 := kX.cell (i := 1) rfl
            have x2 := kX.cell (i := 2) rfl
            have x3 := kX.cell (i := 3) rfl
            have x4 := kX.cell (i := 4) rfl
            have x5 := kX.cell (i := 5) rfl
            have x6 := kX.cell (i := 6) rfl
            have x7 := kX.cell (i := 7) rfl
            go_wp2_with fail
            go_meet
            case rel => exact ⟨by rw [HZE.out], hbs⟩
        · have s0 : (sgnZ X == 0) = false := by rw [sgnZ_eq]; exact decide_eq_false h0
          have HZE := Lib.hid (show decide (X = 0 ∧ Y = 0 ∧ Z = 0) = false from decide_eq_false (fun h => h0 h.1))
          clear h0
          have hbs := Below.refl wr.heap.size wr
          go_wp2_with fail
          refine (rsign_any a0 p0 n0 c0 _ _ _ (by omega) (HR.out.1.below hbs)).mono ?_
          rintro e' ws0 ⟨rfl, hs⟩
          clear x0 x1 x2 x3 x4 x5 x6 x7
          have hbs := hbs.trans (hs.mono hbs.size)
          have kX := kX.kept hs
          clear hs
          have x0 := kX.cell (i := 0) rfl
          have x1 := kX.cell (i := 1) rfl
          have x2 := kX.cell (i := 2) rfl
          have x3 := kX.cell (i := 3) rfl
          have x4 := kX.cell (i := 4) rfl
          have x5 := kX.cell (i := 5) rfl
          have x6 := kX.cell (i := 6) rfl
          have x7 := kX.cell (i := 7) rfl
          go_wp2_with fail
          go_meet
          case rel => exact ⟨by rw [HZE.out], hbs⟩
      case rest =>
      obtain ⟨rfl, hbs⟩ := hcut
      have kC := kC.kept hbs
      have kP := kP.kept hbs
      have kX := kX.kept hbs
      have hb := hb.trans (hbs.mono hb.size)
      have HR2 := Lib.hid (And.intro (HR.out.1.below hbs) (And.intro (HR.out.2.1.below hbs) (And.intro (HR.out.2.2.1.below hbs) (HR.out.2.2.2.below hbs))))
      have hltP : w.heap.size + 1 + 1 + 1 < BX := by have := kC.lt; omega
      clear hbs HR kC x0 x1 x2 x3 x4 x5 x6 x7
      have d0 := kP.cell (i := 0) rfl
      have e0 := kP.frozen 0
      have d1 := kP.cell (i := 1) rfl
      have e1 := kP.frozen 1
      have d2 := kP.cell (i := 2) rfl
      have e2 := kP.frozen 2
      have d3 := kP.cell (i := 3) rfl
      have e3 := kP.frozen 3
      by_cases hz : X = 0 ∧ Y = 0 ∧ Z = 0
      · have HPV : Hid (rthrP q r s = ⟨0, 0, 0, 0⟩ ∧ rthrE q r s = 4) := Lib.hid (by
          have h3 : zero3 q r s := by unfold zero3; rw [HXYZ.out.1, HXYZ.out.2.1, HXYZ.out.2.2.1]; exact hz
          unfold rthrP rthrE; rw [if_pos h3, if_pos h3]; exact ⟨rfl, rfl⟩)
        rw [decide_eq_true hz]
        clear hz HXYZ HR2 kX
        go_wp2_with fail
        have L := Blk.put4 kP (.int .i64 0) (.int .i64 0) (.int .i64 0) (.int .i64 0)
        have z0 := L.cell (i := 0) rfl
        have z1 := L.cell (i := 1) rfl
        have z2 := L.cell (i := 2) rfl
        have z3 := L.cell (i := 3) rfl
        exact bodyPost_ret (v := .tuple #[.agg #[.int .i64 0, .int .i64 0, .int .i64 0, .int .i64 0], .int .i64 4]) (by simp [results, Try.results26, go_sem, z0, z1, z2, z3]) rfl ⟨by rw [HPV.out.1, HPV.out.2], (((hb.setCell (by simp only; omega) _).setCell (by simp only; omega) _).setCell (by simp only; omega) _).setCell (by simp only; omega) _⟩
      · have hred := reduced4 _ HR2.out.1 HR2.out.2.1 HR2.out.2.2.1 HR2.out.2.2.2 (by omega) (by omega) (by omega) (by omega) hz
        have hPE : (rthrP q r s = if MakeOk X Y Z D then ⟨low4 X Y Z D X, low4 X Y Z D Y, low4 X Y Z D Z, low4 X Y Z D D⟩ else ⟨0, 0, 0, 0⟩) ∧ rthrE q r s = errE (decide (MakeOk X Y Z D)) 2 := by
          have h3 : ¬ zero3 q r s := by unfold zero3; rw [HXYZ.out.1, HXYZ.out.2.1, HXYZ.out.2.2.1]; exact hz
          obtain ⟨e1, e2, e3, e4⟩ := HXYZ.out
          subst e1 e2 e3 e4
          unfold rthrP rthrE; rw [if_neg h3, if_neg h3]; exact ⟨rfl, rfl⟩
        have HZF := Lib.hid (decide_eq_false hz)
        have HPE := Lib.hid hPE
        clear hPE HXYZ hz
        rw [HZF.out]
        have hok : ok4 X Y Z D = false → ¬ MakeOk X Y Z D := fun h hm => by
          obtain ⟨_, m0, m1, m2, m3, _⟩ := hm
          unfold ok4 inI64 at h
          rw [decide_eq_true (by omega), decide_eq_true (by omega), decide_eq_true (by omega), decide_eq_true (by omega)] at h
          cases h
        obtain ⟨o, ho⟩ : ∃ o, ok4 X Y Z D = o := ⟨_, rfl⟩
        rw [ho] at hred hok
        have HRED := Lib.hid hred
        have HOK := Lib.hid hok
        clear hred hok HZF
        have x0 := kX.cell (i := 0) rfl
        have x1 := kX.cell (i := 1) rfl
        have x2 := kX.cell (i := 2) rfl
        have x3 := kX.cell (i := 3) rfl
        have x4 := kX.cell (i := 4) rfl
        have x5 := kX.cell (i := 5) rfl
        have x6 := kX.cell (i := 6) rfl
        have x7 := kX.cell (i := 7) rfl
        go_wp2_with fail
        refine HRED.out.mono ?_
        rintro e w8 ⟨u, rfl, hu, hb8⟩
        have HU := Lib.hid hu
        have kP := kP.kept hb8
        have hb := hb.trans (hb8.mono hb.size)
        clear hu HRED HR2 kX x0 x1 x2 x3 x4 x5 x6 x7 d0 d1 d2 d3 e0 e1 e2 e3 hb8
        obtain ⟨w9, hw9⟩ : ∃ w', w8.alloc (.cells #[.int .i64 0, .int .i64 0, .int .i64 0, .int .i64 0] 22) = w' := ⟨_, rfl⟩
        have kU : Blk w9 w8.heap.size #[.int .i64 0, .int .i64 0, .int .i64 0, .int .i64 0] 22 := by rw [← hw9]; exact Blk.new _ _ _
        have hk9 : Below w8.heap.size w8 w9 := by rw [← hw9]; exact (Below.refl _ _).alloc (Nat.le_refl _) _
        obtain ⟨w10, hw10⟩ : ∃ w', ((((w9.setCell ⟨w8.heap.size, 0, none⟩ (.int .i64 u.a)).setCell ⟨w8.heap.size, 1, none⟩ (.int .i64 u.b)).setCell ⟨w8.heap.size, 2, none⟩ (.int .i64 u.c)).setCell ⟨w8.heap.size, 3, none⟩ (.int .i64 u.d)) = w' := ⟨_, rfl⟩
        have hk10 : Below w8.heap.size w8 w10 := by rw [← hw10]; exact ((((hk9.setCell (by simp only; omega) _).setCell (by simp only; omega) _).setCell (by simp only; omega) _).setCell (by simp only; omega) _)
        have kV : Blk w10 w8.heap.size #[.int .i64 u.a, .int .i64 u.b, .int .i64 u.c, .int .i64 u.d] 22 := by rw [← hw10]; exact Blk.put4 kU _ _ _ _
        have kP := kP.kept hk10
        have hb := hb.trans (hk10.mono hb.size)
        have y0 := kU.cell (i := 0) rfl
        have f0 := kU.frozen 0
        have y1 := kU.cell (i := 1) rfl
        have f1 := kU.frozen 1
        have y2 := kU.cell (i := 2) rfl
        have f2 := kU.frozen 2
        have y3 := kU.cell (i := 3) rfl
        have f3 := kU.frozen 3
        have v0 := kV.cell (i := 0) rfl
        have v1 := kV.cell (i := 1) rfl
        have v2 := kV.cell (i := 2) rfl
        have v3 := kV.cell (i := 3) rfl
        have d0 := kP.cell (i := 0) rfl
        have e0 := kP.frozen 0
        have d1 := kP.cell (i := 1) rfl
        have e1 := kP.frozen 1
        have d2 := kP.cell (i := 2) rfl
        have e2 := kP.frozen 2
        have d3 := kP.cell (i := 3) rfl
        have e3 := kP.frozen 3
        clear hk9 hk10 kU
        cases o with
        | false =>
          have hnm := HOK.out rfl
          have HPV : Hid (rthrP q r s = ⟨0, 0, 0, 0⟩ ∧ rthrE q r s = 2) := Lib.hid (by
            obtain ⟨h1, h2⟩ := HPE.out
            rw [if_neg hnm] at h1
            rw [decide_eq_false hnm] at h2
            exact ⟨h1, h2⟩)
          clear HU HOK HPE hnm
          go_wp2_with fail
          have L := Blk.put4 kP (.int .i64 0) (.int .i64 0) (.int .i64 0) (.int .i64 0)
          have z0 := L.cell (i := 0) rfl
          have z1 := L.cell (i := 1) rfl
          have z2 := L.cell (i := 2) rfl
          have z3 := L.cell (i := 3) rfl
          exact bodyPost_ret (v := .tuple #[.agg #[.int .i64 0, .int .i64 0, .int .i64 0, .int .i64 0], .int .i64 2]) (by simp [results, Try.results26, go_sem, z0, z1, z2, z3]) rfl ⟨by rw [HPV.out.1, HPV.out.2], (((hb.setCell (by simp only; omega) _).setCell (by simp only; omega) _).setCell (by simp only; omega) _).setCell (by simp only; omega) _⟩
        | true =>
          have hul := HU.out rfl
          have hin : inI64 u.a = true ∧ inI64 u.b = true ∧ inI64 u.c = true ∧ inI64 u.d = true := by
            unfold ok4 at ho
            simp only [Bool.and_eq_true] at ho
            rw [hul]; exact ho
          have hi4 : ∀ z, inI64 z = true → InI64 z := fun z h => by unfold inI64 at h; unfold InI64; have := of_decide_eq_true h; omega
          have hrt := fun W => right3_any u.a u.b u.c u.d W (hi4 _ hin.1) (hi4 _ hin.2.1) (hi4 _ hin.2.2.1) (hi4 _ hin.2.2.2)
          have hPV : (rthrP q r s = if RightP u.a u.b u.c u.d then u else ⟨0, 0, 0, 0⟩) ∧ rthrE q r s = errE (decide (RightP u.a u.b u.c u.d)) 2 := by
            rw [hul]
            exact HPE.out
          obtain ⟨b, hbd⟩ : ∃ b, decide (RightP u.a u.b u.c u.d) = b := ⟨_, rfl⟩
          have hPB : rthrP q r s = (if b = true then u else ⟨0, 0, 0, 0⟩) ∧ rthrE q r s = errE b 2 := by
            rw [← hbd]
            refine ⟨?_, hPV.2⟩
            rw [hPV.1]
            by_cases h : RightP u.a u.b u.c u.d
            · rw [if_pos h, if_pos (decide_eq_true h)]
            · rw [if_neg h, if_neg (by rw [decide_eq_false h]; decide)]
          rw [hbd] at hrt
          have HRT := Lib.hid hrt
          have HPB := Lib.hid hPB
          clear hul hin hi4 hrt hPV hPB hbd HU HOK HPE ho
          go_wp2_with fail
          refine (HRT.out _).mono ?_
          rintro e w11 ⟨rfl, hb11⟩
          have kP := kP.kept hb11
          have kV := kV.kept hb11
          have hb := hb.trans (hb11.mono hb.size)
          clear y0 f0 v0 d0 e0 y1 f1 v1 d1 e1 y2 f2 v2 d2 e2 y3 f3 v3 d3 e3 HRT
          have v0 := kV.cell (i := 0) rfl
          have d0 := kP.cell (i := 0) rfl
          have e0 := kP.frozen 0
          have v1 := kV.cell (i := 1) rfl
          have d1 := kP.cell (i := 1) rfl
          have e1 := kP.frozen 1
          have v2 := kV.cell (i := 2) rfl
          have d2 := kP.cell (i := 2) rfl
          have e2 := kP.frozen 2
          have v3 := kV.cell (i := 3) rfl
          have d3 := kP.cell (i := 3) rfl
          have e3 := kP.frozen 3
          cases b with
          | false =>
            have HPV : Hid (rthrP q r s = ⟨0, 0, 0, 0⟩ ∧ rthrE q r s = 2) := Lib.hid HPB.out
            go_wp2_with fail
            have L := Blk.put4 kP (.int .i64 0) (.int .i64 0) (.int .i64 0) (.int .i64 0)
            have z0 := L.cell (i := 0) rfl
            have z1 := L.cell (i := 1) rfl
            have z2 := L.cell (i := 2) rfl
            have z3 := L.cell (i := 3) rfl
            exact bodyPost_ret (v := .tuple #[.agg #[.int .i64 0, .int .i64 0, .int .i64 0, .int .i64 0], .int .i64 2]) (by simp [results, Try.results26, go_sem, z0, z1, z2, z3]) rfl ⟨by rw [HPV.out.1, HPV.out.2], (((hb.setCell (by simp only; omega) _).setCell (by simp only; omega) _).setCell (by simp only; omega) _).setCell (by simp only; omega) _⟩
          | true =>
            have HPV : Hid (rthrP q r s = u ∧ rthrE q r s = 0) := Lib.hid HPB.out
            go_wp2_with fail
            have L := Blk.put4 kP (.int .i64 u.a) (.int .i64 u.b) (.int .i64 u.c) (.int .i64 u.d)
            have z0 := L.cell (i := 0) rfl
            have z1 := L.cell (i := 1) rfl
            have z2 := L.cell (i := 2) rfl
            have z3 := L.cell (i := 3) rfl
            exact bodyPost_ret (v := .tuple #[.agg #[.int .i64 u.a, .int .i64 u.b, .int .i64 u.c, .int .i64 u.d], .int .i64 0]) (by simp [results, Try.results26, go_sem, z0, z1, z2, z3]) rfl ⟨by rw [HPV.out.1, HPV.out.2], (((hb.setCell (by simp only; omega) _).setCell (by simp only; omega) _).setCell (by simp only; omega) _).setCell (by simp only; omega) _⟩

end Go.Proofs.Ythdhakpmhndbfaa
