/-
  Package right: the first error; Package plane: checks, opposites; Package plane: Make; Package plane: two planes; Package plane: the iterator over two planes' coefficients; Package plane: the sum of products; Package sums: minors of three rows; A region that draws its order: of each operation what it yields is known, or a relation that holds on while memory grows; its last operations, which may store, come in order; Package sums: minors of three rows, whole; Package sums: the vector product of three rows; Package plane: the plane with a normal through a point.
-/
import Derived.OrdersIn
import Derived.Test.YtimkeblcdodfmaaGreatK1
import Derived.Test.YtimkeblcdodfmaaGreatK2
import Derived.Test.YtimkeblcdodfmaaGreatK3
import Derived.Test.YtimkeblcdodfmaaGreatK4
import Derived.Test.YtimkeblcdodfmaaGreatK5
import Derived.Test.YtimkeblcdodfmaaGreatK6
namespace Go.Proofs.YtimkeblcdodfmaaGreat
open Go.RowKit Go.Shelf
attribute [local go_sem] Oper.semAt_some

set_option maxRecDepth 100000 in
set_option maxHeartbeats 2000000 in
theorem within_closure (bl bs : Nat) (lim : Int) (p : Option Addr) (n c : Nat) (xs : List Int) (w : World) (hl : xs.length = n) (hn : n ≤ 1000) (hr : RdI w p xs) (h0 : 0 ≤ lim) (h1 : lim < 9223372036854775808)
    (c0 : w.cell? ⟨bl, 0, none⟩ = some (.int .i64 lim)) (c1 : w.cell? ⟨bs, 0, none⟩ = some (.slice p n c)) :
    Calls Tryz.prog 145 #[.pointer (some ⟨bl, 0, none⟩), .pointer (some ⟨bs, 0, none⟩)] w fun e w' => e = .returned (.int .i64 (errE (within lim xs) 1)) ∧ Below w.heap.size w w' := by
  have hw := areWithin_any lim p n c xs w hl hn hr h0 h1
  generalize within lim xs = b at *
  have HW := Lib.hid hw
  clear hw hr hl
  go_enter Tryz.func145, Tryz.ntmps145
  go_wp2_with fail
  refine HW.out.mono ?_
  rintro e w2 ⟨rfl, rfl⟩
  cases b
  · go_wp2_with fail
    go_ret
    exact ⟨rfl, Below.refl _ _⟩
  · go_wp2_with fail
    go_ret
    exact ⟨rfl, Below.refl _ _⟩

set_option maxRecDepth 100000 in
set_option maxHeartbeats 2000000 in
theorem withins_any (lim : Int) (p : Option Addr) (n c : Nat) (xs : List Int) (w : World) (hl : xs.length = n) (hn : n ≤ 1000) (hr : RdI w p xs) (h0 : 0 ≤ lim) (h1 : lim < 9223372036854775808) :
    Calls Tryz.prog 126 #[.int .i64 lim, .slice p n c] w fun e w' => ∃ v, e = .returned v ∧ ChkIs w' v (errE (within lim xs) 1) ∧ Below w.heap.size w w' := by
  have hb0 : Below w.heap.size w ((w.alloc (.cells #[.int .i64 lim] 2)).alloc (.cells #[.slice p n c] 119)) := bw2 w _ _
  have k0 : Blk ((w.alloc (.cells #[.int .i64 lim] 2)).alloc (.cells #[.slice p n c] 119)) w.heap.size #[.int .i64 lim] 2 := (Blk.new w _ _).alloc _
  have k1 : Blk ((w.alloc (.cells #[.int .i64 lim] 2)).alloc (.cells #[.slice p n c] 119)) (w.heap.size + 1) #[.slice p n c] 119 := Blk.new' _ _ _ (by simp)
  have HR := Lib.hid hr
  clear hr
  go_enter Tryz.func126, Tryz.ntmps126
  go_wp2
  go_ret
  refine ⟨_, rfl, ⟨_, _, rfl, enters_of Tryz.func145 (by kernel_rfl) rfl, fun W hW => ?_⟩, hb0⟩
  exact within_closure _ _ lim p n c xs W hl hn ((HR.out.below hb0).below hW) h0 h1 ((k0.kept hW).cell (i := 0) rfl) ((k1.kept hW).cell (i := 0) rfl)

set_option maxRecDepth 100000 in
set_option maxHeartbeats 2000000 in
theorem most_closure (bl bs : Nat) (lim len : Int) (w : World)
    (c0 : w.cell? ⟨bl, 0, none⟩ = some (.int .i64 len)) (c1 : w.cell? ⟨bs, 0, none⟩ = some (.int .i64 lim)) :
    Calls Tryz.prog 91 #[.pointer (some ⟨bl, 0, none⟩), .pointer (some ⟨bs, 0, none⟩)] w fun e w' => e = .returned (.int .i64 (errE (decide (len ≤ lim)) 2)) ∧ Below w.heap.size w w' := by
  by_cases h : lim < len
  · have hd : decide (len ≤ lim) = false := decide_eq_false (by omega)
    rw [hd]
    clear hd
    go_enter Tryz.func91, Tryz.ntmps91
    go_wp2_with fail
    go_ret
    exact ⟨rfl, Below.refl _ _⟩
  · have hd : decide (len ≤ lim) = true := decide_eq_true (by omega)
    rw [hd]
    clear hd
    go_enter Tryz.func91, Tryz.ntmps91
    go_wp2_with fail
    go_ret
    exact ⟨rfl, Below.refl _ _⟩

set_option maxRecDepth 100000 in
set_option maxHeartbeats 2000000 in
theorem most_any (lim len : Int) (w : World) :
    Calls Tryz.prog 64 #[.int .i64 lim, .int .i64 len] w fun e w' => ∃ v, e = .returned v ∧ ChkIs w' v (errE (decide (len ≤ lim)) 2) ∧ Below w.heap.size w w' := by
  have hb0 : Below w.heap.size w ((w.alloc (.cells #[.int .i64 lim] 3)).alloc (.cells #[.int .i64 len] 3)) := bw2 w _ _
  have k0 : Blk ((w.alloc (.cells #[.int .i64 lim] 3)).alloc (.cells #[.int .i64 len] 3)) w.heap.size #[.int .i64 lim] 3 := (Blk.new w _ _).alloc _
  have k1 : Blk ((w.alloc (.cells #[.int .i64 lim] 3)).alloc (.cells #[.int .i64 len] 3)) (w.heap.size + 1) #[.int .i64 len] 3 := Blk.new' _ _ _ (by simp)
  go_enter Tryz.func64, Tryz.ntmps64
  go_wp2
  go_ret
  refine ⟨_, rfl, ⟨_, _, rfl, enters_of Tryz.func91 (by kernel_rfl) rfl, fun W hW => ?_⟩, hb0⟩
  exact most_closure _ _ lim len W ((k1.kept hW).cell (i := 0) rfl) ((k0.kept hW).cell (i := 0) rfl)

/-- The first error of some. -/
def firstE : List Int → Int
  | [] => 0
  | r :: rs => if r = 0 then firstE rs else r
theorem firstE_take {rs : List Int} {i : Nat} (hi : i < rs.length) (h : ∀ r ∈ rs.take i, r = 0) (hr : rs[i] ≠ 0) : firstE rs = rs[i] := by
  induction rs generalizing i with
  | nil => simp at hi
  | cons r rs ih =>
    match i with
    | 0 => simp only [List.getElem_cons_zero] at hr ⊢; unfold firstE; rw [if_neg hr]
    | i + 1 =>
      have hr0 : r = 0 := h r (by simp)
      simp only [List.getElem_cons_succ] at hr ⊢
      unfold firstE
      rw [if_pos hr0]
      exact ih (by simpa using hi) (fun x hx => h x (by rw [List.take_succ_cons]; exact List.mem_cons_of_mem _ hx)) hr
theorem firstE_zero {rs : List Int} (h : ∀ r ∈ rs, r = 0) : firstE rs = 0 := by
  induction rs with
  | nil => rfl
  | cons r rs ih => unfold firstE; rw [if_pos (h r (by simp))]; exact ih (fun x hx => h x (List.mem_cons_of_mem _ hx))

/-- A slice of checks. -/
def RdC (w : World) (p : Option Addr) (rs : List Int) : Prop :=
  ∀ i r, rs[i]? = some r → ∃ b off v, p = some ⟨b, off, none⟩ ∧ b < w.heap.size ∧ w.cell? ⟨b, off + i, none⟩ = some v ∧ ChkIs w v r

set_option maxRecDepth 100000 in
set_option maxHeartbeats 4000000 in
theorem first_any (p : Option Addr) (n c : Nat) (rs : List Int) (w : World) (hl : rs.length = n) (hn : n ≤ 1000) (hr : RdC w p rs) :
    Calls Tryz.prog 45 #[.slice p n c] w fun e w' => e = .returned (.int .i64 (firstE rs)) ∧ Below w.heap.size w w' := by
  have HL := Lib.hid hl
  have HR := Lib.hid hr
  clear hl hr
  go_enter Tryz.func45, Tryz.ntmps45
  go_wp2_with fail
  go_loopg [8] n (fun gk v8 wr => ∃ i : Nat, i ≤ n ∧ gk = n - i ∧ v8 = .int .i64 (i : Int) ∧ Hid (∀ r ∈ rs.take i, r = 0) ∧ Below w.heap.size w wr)
  case atStart => exact ⟨0, Nat.zero_le _, rfl, rfl, fun q hq => by simp at hq, Below.refl _ _⟩
  case round =>
    obtain ⟨i, hi, hgk, rfl, HA, hb⟩ := hrel
    have HGK := Lib.hid hgk
    clear hgk
    by_cases hlt : i < n
    · have hil : i < rs.length := by rw [HL.out]; exact hlt
      have hlti : (i : Int) < (n : Int) := by omega
      obtain ⟨b, off, v, rfl, hbl, hc, g, caps, rfl, heg, hcall⟩ := HR.out i _ (List.getElem?_eq_getElem hil)
      have hc := (hb.cell (p := ⟨b, off + i, none⟩) hbl).trans hc
      have htk : rs.take (i + 1) = rs.take i ++ [rs[i]] := List.take_succ_eq_append_getElem hil
      have hfi := fun h => firstE_take hil HA.out h
      have hcl := hcall wr hb
      clear hcall
      generalize rs[i] = r at *
      have HT := Lib.hid (And.intro htk hfi)
      have HC := Lib.hid hcl
      clear htk hfi hcl
      go_wp2_with fail
      refine HC.out.mono ?_
      rintro e w3 ⟨rfl, hb3⟩
      have hb3' := hb.trans (hb3.mono hb.size)
      by_cases hr0 : r = 0
      · subst hr0
        go_wp2_with fail
        go_roundg (n - (i + 1))
        case measure => rw [HGK.out]; omega
        case rel =>
          refine ⟨i + 1, by omega, rfl, by go_num, ?_, hb3'⟩
          intro y hy
          rw [HT.out.1] at hy
          rcases List.mem_append.1 hy with hy | hy
          · exact HA.out y hy
          · exact List.mem_singleton.1 hy
      · have hne : (r != 0) = true := by simp [hr0]
        have HF := Lib.hid (HT.out.2 hr0)
        clear hr0
        go_wp2_with fail
        go_ret
        exact ⟨congrArg (fun z : Int => Ending.returned (.int .i64 z)) HF.out.symm, hb3'⟩
    · have hlti : ¬ (i : Int) < (n : Int) := by omega
      have hz : firstE rs = 0 := firstE_zero (by have := HA.out; rwa [List.take_of_length_le (by rw [HL.out]; omega)] at this)
      have HZ := Lib.hid hz
      clear hz
      go_wp2_with fail
      go_ret
      exact ⟨congrArg (fun z : Int => Ending.returned (.int .i64 z)) HZ.out.symm, hb⟩

end Go.Proofs.YtimkeblcdodfmaaGreat

namespace Go.Proofs.YtimkeblcdodfmaaGreat
open Go.RowKit Go.Shelf
attribute [local go_sem] Oper.semAt_some

theorem Blk.put4 {W : World} {B : Nat} {a b c d : Value} {t : TypeId} (h : Blk W B #[a, b, c, d] t) (a' b' c' d' : Value) : Blk ((((W.setCell ⟨B, 0, none⟩ a').setCell ⟨B, 1, none⟩ b').setCell ⟨B, 2, none⟩ c').setCell ⟨B, 3, none⟩ d') B #[a', b', c', d'] t :=
  (((h.set_eq 0 a' rfl).set_eq 1 b' rfl).set_eq 2 c' rfl).set_eq 3 d' rfl

theorem planes1 (w : World) (a b c d : Int) (t : TypeId) : RdV (w.alloc (.cells #[.int .i64 a, .int .i64 b, .int .i64 c, .int .i64 d] t)) (some ⟨w.heap.size, 0, none⟩) [⟨a, b, c, d⟩] := by
  have hB := Blk.new w #[.int .i64 a, .int .i64 b, .int .i64 c, .int .i64 d] t
  intro i y hi
  match i, hi with
  | 0, hi => cases hi; exact ⟨_, 0, rfl, hB.lt, hB.cell (i := 0) rfl, hB.cell (i := 1) rfl, hB.cell (i := 2) rfl, hB.cell (i := 3) rfl⟩
  | i + 1, hi => simp at hi

theorem checks1 (w : World) (v : Value) (r : Int) (t : TypeId) (h : ChkIs w v r) : RdC (w.alloc (.cells #[v] t)) (some ⟨w.heap.size, 0, none⟩) [r] := by
  have hB := Blk.new w #[v] t
  intro i y hi
  match i, hi with
  | 0, hi => cases hi; exact ⟨_, 0, v, rfl, hB.lt, hB.cell (i := 0) rfl, h.below ((Below.refl _ w).alloc (Nat.le_refl _) _)⟩
  | i + 1, hi => simp at hi
theorem firstE_one (r : Int) : firstE [r] = r := by unfold firstE; split <;> simp_all [firstE]

end Go.Proofs.YtimkeblcdodfmaaGreat

namespace Go.Proofs.YtimkeblcdodfmaaGreat
open Go.RowKit Go.Shelf
attribute [local go_sem] Oper.semAt_some sumV

theorem ite_iff {p q : Prop} [Decidable p] [Decidable q] (h : p ↔ q) {x y : Value} : (if p then x else y) = if q then x else y := by
  by_cases hp : p
  · rw [if_pos hp, if_pos (h.1 hp)]
  · rw [if_neg hp, if_neg (fun k => hp (h.2 k))]
theorem tdiv_low (a b c d x : Int) (h : (g4 a b c d : Int) ∣ x) : x.tdiv (g4 a b c d) = low4 a b c d x := by
  unfold low4; exact Int.tdiv_eq_ediv_of_dvd h
theorem tdiv_in {x : Int} (g : Nat) (h : InI64 x) : InI64 (x.tdiv g) := by
  unfold InI64 at *
  rcases Int.lt_or_le x 0 with hx | hx
  · rw [tdiv_neg' hx]
    have := Nat.div_le_self x.natAbs g
    generalize x.natAbs / g = q at *
    omega
  · rw [tdiv_pos' hx]
    have := Nat.div_le_self x.natAbs g
    generalize x.natAbs / g = q at *
    omega

end Go.Proofs.YtimkeblcdodfmaaGreat

namespace Go.Proofs.YtimkeblcdodfmaaGreat
open Go.RowKit Go.Shelf
attribute [local go_sem] Oper.semAt_some

/-- The normals are multiples of each other. -/
def parB (a b c e f g : Int) : Bool := decide (b * g = c * f) && (decide (c * e = a * g) && decide (a * f = b * e))

/-- Whether both are right, as an error. -/
def both (a b c d e f g h : Int) : Int := errE (decide (RightP a b c d) && decide (RightP e f g h)) 30

end Go.Proofs.YtimkeblcdodfmaaGreat

namespace Go.Proofs.YtimkeblcdodfmaaGreat
open Go.RowKit Go.Shelf
attribute [local go_sem] Oper.semAt_some

/-- A coefficient by its place. -/
def vg (q : V4) (i : Nat) : Int := if i = 0 then q.a else if i = 1 then q.b else if i = 2 then q.c else q.d
theorem Blk.vg {W : World} {B : Nat} {q : V4} {t : TypeId} (h : Blk W B #[.int .i64 q.a, .int .i64 q.b, .int .i64 q.c, .int .i64 q.d] t) {i : Nat} (hi : i < 4) : W.cell? ⟨B, i, none⟩ = some (.int .i64 (vg q i)) := by
  have h4 : i = 0 ∨ i = 1 ∨ i = 2 ∨ i = 3 := by omega
  rcases h4 with rfl | rfl | rfl | rfl <;> exact h.cell rfl

end Go.Proofs.YtimkeblcdodfmaaGreat

namespace Go.Proofs.YtimkeblcdodfmaaGreat
open Go.RowKit Go.Shelf
attribute [local go_sem] Oper.semAt_some sumV

theorem vg_in {q : V4} (h : InV q) (k : Nat) : InI64 (vg q k) := by
  unfold vg
  split
  · exact h.1
  · split
    · exact h.2.1
    · split
      · exact h.2.2.1
      · exact h.2.2.2

theorem Blk.own {W W' : World} {B : Nat} {cs : Array Value} {t : TypeId} {row : Option Nat} (h : Blk W B cs t) (hg : W.grownBy W' row) (hrow : ∀ r, row = some r → ∃ o : Obj, W.heap[r]? = some o ∧ o.isCells = false) : Blk W' B cs t := by
  unfold Blk at h ⊢
  exact (grownBy_keeps_cells hg hrow h rfl).trans h

end Go.Proofs.YtimkeblcdodfmaaGreat

namespace Go.Proofs.YtimkeblcdodfmaaGreat
open Go.RowKit Go.Shelf
attribute [local go_sem] Oper.semAt_some

set_option maxRecDepth 100000 in
set_option maxHeartbeats 4000000 in
theorem area_any (bi bj i j : Nat) (p q : V4) (w : World) (hi4 : i < 4) (hj4 : j < 4) (hp : InV p) (hq : InV q)
    (h0 : w.cell? ⟨bi, 0, none⟩ = some (.int .i64 (i : Int))) (h1 : w.cell? ⟨bj, 0, none⟩ = some (.int .i64 (j : Int))) (l0 : bi < w.heap.size) (l1 : bj < w.heap.size) :
    Calls Tryz.prog 120 #[.agg #[.int .i64 p.a, .int .i64 p.b, .int .i64 p.c, .int .i64 p.d], .agg #[.int .i64 q.a, .int .i64 q.b, .int .i64 q.c, .int .i64 q.d], .pointer (some ⟨bi, 0, none⟩), .pointer (some ⟨bj, 0, none⟩)] w fun e w' => e = .returned (sumV (vg p i * vg q j - vg p j * vg q i)) ∧ Below w.heap.size w w' := by
  obtain ⟨w1, hw1⟩ : ∃ w1, (((w.alloc (.cells #[.int .i64 p.a, .int .i64 p.b, .int .i64 p.c, .int .i64 p.d] 22)).alloc (.cells #[.int .i64 q.a, .int .i64 q.b, .int .i64 q.c, .int .i64 q.d] 22)).alloc (.cells #[.int .u64 0, .int .u64 0] 90)) = w1 := ⟨_, rfl⟩
  have hb1 : Below w.heap.size w w1 := by rw [← hw1]; exact bw3 w _ _ _
  have k0 : Blk w1 w.heap.size #[.int .i64 p.a, .int .i64 p.b, .int .i64 p.c, .int .i64 p.d] 22 := by rw [← hw1]; exact ((Blk.new w _ _).alloc _).alloc _
  have k1 : Blk w1 (w.heap.size + 1) #[.int .i64 q.a, .int .i64 q.b, .int .i64 q.c, .int .i64 q.d] 22 := by rw [← hw1]; exact (Blk.new' _ _ _ (by simp)).alloc _
  have k2 : Blk w1 (w.heap.size + 1 + 1) #[.int .u64 0, .int .u64 0] 90 := by rw [← hw1]; exact Blk.new' _ _ _ (by simp)
  have a0 := vg_in hp i
  have a1 := vg_in hq j
  have a2 := vg_in hp j
  have a3 := vg_in hq i
  unfold InI64 at a0 a1 a2 a3
  have hx := fun W => product_any (vg p i) (vg q j) W a0.1 a0.2 a1.1 a1.2
  have hy := fun W => product_any (vg p j) (vg q i) W a2.1 a2.2 a3.1 a3.2
  have hu := fun W => minus_any (vg p i * vg q j) (vg p j * vg q i) W
  have hii : (i : Int) < 4 := by omega
  have hji : (j : Int) < 4 := by omega
  unfold sumV at hx hy hu ⊢
  generalize hiW (vg p i * vg q j) = xh at *
  generalize loW (vg p i * vg q j) = xl at *
  generalize hiW (vg p j * vg q i) = yh at *
  generalize loW (vg p j * vg q i) = yl at *
  generalize hiW (vg p i * vg q j - vg p j * vg q i) = uh at *
  generalize loW (vg p i * vg q j - vg p j * vg q i) = ul at *
  have HX := Lib.hid hx
  have HY := Lib.hid hy
  have HU := Lib.hid hu
  clear hx hy hu a0 a1 a2 a3 hp hq
  go_enter Tryz.func120, Tryz.ntmps120
  go_upto_region 1 with fail
  refine wp_region_pure 15 (fun ix => match ix with | 0 => .int .i64 (i : Int) | 1 => .pointer (some ⟨w.heap.size, i, none⟩) | 2 => .int .i64 (vg p i) | 3 => .int .i64 (j : Int) | 4 => .pointer (some ⟨w.heap.size + 1, j, none⟩) | 5 => .int .i64 (vg q j) | 6 => .agg #[.int .u64 xh, .int .u64 xl] | 7 => .int .i64 (j : Int) | 8 => .pointer (some ⟨w.heap.size, j, none⟩) | 9 => .int .i64 (vg p j) | 10 => .int .i64 (i : Int) | 11 => .pointer (some ⟨w.heap.size + 1, i, none⟩) | 12 => .int .i64 (vg q i) | 13 => .agg #[.int .u64 yh, .int .u64 yl] | _ => .agg #[.int .u64 uh, .int .u64 ul]) (by kernel_rfl) (by kernel_rfl) (by kernel_rfl) ?_ ?_ ?_
  · decide
  · rintro ix hx f ww hS hd
    have f0 := (k0.kept hS).vg hi4
    have f1 := (k1.kept hS).vg hj4
    have f2 := (k0.kept hS).vg hj4
    have f3 := (k1.kept hS).vg hi4
    have hbw := hb1.trans (hS.mono hb1.size)
    have f4 := (hbw.cell (p := ⟨bi, 0, none⟩) l0).trans h0
    have f5 := (hbw.cell (p := ⟨bj, 0, none⟩) l1).trans h1
    rcases ix with _ | _ | _ | _ | _ | _ | _ | _ | _ | _ | _ | _ | _ | _ | _ | ix
    · refine wpOp_list rfl ?_
      simp only [tmOf, putAll, List.map_cons, List.map_nil, List.setIfInBounds_toArray, List.set_cons_zero, List.set_cons_succ]
      go_wp2
      simp [upd, Below.refl]
    · have g0 : f 0 = .int .i64 (i : Int) := hd 0 (by kernel_rfl)
      refine wpOp_list rfl ?_
      simp only [tmOf, putAll, List.map_cons, List.map_nil, List.setIfInBounds_toArray, List.set_cons_zero, List.set_cons_succ]
      go_wp2
      simp [upd, g0, Below.refl]
    · have g1 : f 1 = .pointer (some ⟨w.heap.size, i, none⟩) := hd 1 (by kernel_rfl)
      refine wpOp_list rfl ?_
      simp only [tmOf, putAll, List.map_cons, List.map_nil, List.setIfInBounds_toArray, List.set_cons_zero, List.set_cons_succ]
      go_wp2
      simp [upd, g1, Below.refl]
    · refine wpOp_list rfl ?_
      simp only [tmOf, putAll, List.map_cons, List.map_nil, List.setIfInBounds_toArray, List.set_cons_zero, List.set_cons_succ]
      go_wp2
      simp [upd, Below.refl]
    · have g3 : f 3 = .int .i64 (j : Int) := hd 3 (by kernel_rfl)
      refine wpOp_list rfl ?_
      simp only [tmOf, putAll, List.map_cons, List.map_nil, List.setIfInBounds_toArray, List.set_cons_zero, List.set_cons_succ]
      go_wp2
      simp [upd, g3, Below.refl]
    · have g4 : f 4 = .pointer (some ⟨w.heap.size + 1, j, none⟩) := hd 4 (by kernel_rfl)
      refine wpOp_list rfl ?_
      simp only [tmOf, putAll, List.map_cons, List.map_nil, List.setIfInBounds_toArray, List.set_cons_zero, List.set_cons_succ]
      go_wp2
      simp [upd, g4, Below.refl]
    · have g2 : f 2 = .int .i64 (vg p i) := hd 2 (by kernel_rfl)
      have g5 : f 5 = .int .i64 (vg q j) := hd 5 (by kernel_rfl)
      refine wpOp_list rfl ?_
      simp only [tmOf, putAll, List.map_cons, List.map_nil, List.setIfInBounds_toArray, List.set_cons_zero, List.set_cons_succ]
      go_wp2_with fail
      refine (HX.out _).mono ?_
      rintro e' wf ⟨rfl, hbf⟩
      go_wp2_with fail
      simp [upd, g2, g5, hbf]
    · refine wpOp_list rfl ?_
      simp only [tmOf, putAll, List.map_cons, List.map_nil, List.setIfInBounds_toArray, List.set_cons_zero, List.set_cons_succ]
      go_wp2
      simp [upd, Below.refl]
    · have g7 : f 7 = .int .i64 (j : Int) := hd 7 (by kernel_rfl)
      refine wpOp_list rfl ?_
      simp only [tmOf, putAll, List.map_cons, List.map_nil, List.setIfInBounds_toArray, List.set_cons_zero, List.set_cons_succ]
      go_wp2
      simp [upd, g7, Below.refl]
    · have g8 : f 8 = .pointer (some ⟨w.heap.size, j, none⟩) := hd 8 (by kernel_rfl)
      refine wpOp_list rfl ?_
      simp only [tmOf, putAll, List.map_cons, List.map_nil, List.setIfInBounds_toArray, List.set_cons_zero, List.set_cons_succ]
      go_wp2
      simp [upd, g8, Below.refl]
    · refine wpOp_list rfl ?_
      simp only [tmOf, putAll, List.map_cons, List.map_nil, List.setIfInBounds_toArray, List.set_cons_zero, List.set_cons_succ]
      go_wp2
      simp [upd, Below.refl]
    · have g10 : f 10 = .int .i64 (i : Int) := hd 10 (by kernel_rfl)
      refine wpOp_list rfl ?_
      simp only [tmOf, putAll, List.map_cons, List.map_nil, List.setIfInBounds_toArray, List.set_cons_zero, List.set_cons_succ]
      go_wp2
      simp [upd, g10, Below.refl]
    · have g11 : f 11 = .pointer (some ⟨w.heap.size + 1, i, none⟩) := hd 11 (by kernel_rfl)
      refine wpOp_list rfl ?_
      simp only [tmOf, putAll, List.map_cons, List.map_nil, List.setIfInBounds_toArray, List.set_cons_zero, List.set_cons_succ]
      go_wp2
      simp [upd, g11, Below.refl]
    · have g9 : f 9 = .int .i64 (vg p j) := hd 9 (by kernel_rfl)
      have g12 : f 12 = .int .i64 (vg q i) := hd 12 (by kernel_rfl)
      refine wpOp_list rfl ?_
      simp only [tmOf, putAll, List.map_cons, List.map_nil, List.setIfInBounds_toArray, List.set_cons_zero, List.set_cons_succ]
      go_wp2_with fail
      refine (HY.out _).mono ?_
      rintro e' wf ⟨rfl, hbf⟩
      go_wp2_with fail
      simp [upd, g9, g12, hbf]
    · have g6 : f 6 = .agg #[.int .u64 xh, .int .u64 xl] := hd 6 (by kernel_rfl)
      have g13 : f 13 = .agg #[.int .u64 yh, .int .u64 yl] := hd 13 (by kernel_rfl)
      refine wpOp_list rfl ?_
      simp only [tmOf, putAll, List.map_cons, List.map_nil, List.setIfInBounds_toArray, List.set_cons_zero, List.set_cons_succ]
      go_wp2_with fail
      refine (HU.out _).mono ?_
      rintro e' wf ⟨rfl, hbf⟩
      go_wp2_with fail
      simp [upd, g6, g13, hbf]
    · omega
  · rintro f ww hS hd
    have K2 := k2.kept hS
    have d0 := K2.cell (i := 0) rfl
    have d1 := K2.cell (i := 1) rfl
    have q0 := K2.frozen 0
    have q1 := K2.frozen 1
    have g14 : f 14 = .agg #[.int .u64 uh, .int .u64 ul] := hd 14 (by decide)
    simp only [seqW, tmOf, putAll, List.map_cons, List.map_nil, List.setIfInBounds_toArray, List.set_cons_zero, List.set_cons_succ, List.length_cons, List.length_nil]
    refine wpOp_list rfl ?_
    go_wp2
    have L := (K2.set_eq 0 (.int .u64 uh) rfl).set_eq 1 (.int .u64 ul) rfl
    have z0 := L.cell (i := 0) rfl
    have z1 := L.cell (i := 1) rfl
    exact bodyPost_ret (v := .agg #[.int .u64 uh, .int .u64 ul]) (by simp [results, Tryz.results120, go_sem, z0, z1]) rfl ⟨rfl, ((hb1.trans (hS.mono hb1.size)).setCell (by simp only; omega) _).setCell (by simp only; omega) _⟩

end Go.Proofs.YtimkeblcdodfmaaGreat

namespace Go.Proofs.YtimkeblcdodfmaaGreat
open Go.RowKit
variable {P : Program} {Q : Exit → Act → World → Prop}

theorem wp_region_kn {id : Nat} {l : List Oper} {a : Act} {w : World} (n0 : Nat) (pu : Nat → Bool) (vs : Nat → Value) (K : Nat → Value → World → Prop) (hm : P.follows .mixedOrders = true) (hE : earlierB l = true) (hT : tailB l n0 = true) (hn0 : n0 < l.length)
    (mono : ∀ i v w w', Below w.heap.size w w' → K i v w → K i v w')
    (step : ∀ i, i < n0 → ∀ f w', Below w.heap.size w w' → (∀ j, depB l i j = true → bif pu j then f j = vs j else K j (f j) w') → wpOp P l.toArray Q i (fun a' w'' => ∃ v, a' = tmOf a l (upd f i v) ∧ (bif pu i then v = vs i else K i v w'') ∧ Below w'.heap.size w' w'') (tmOf a l f) w')
    (last : ∀ f w', Below w.heap.size w w' → (∀ j, j < n0 → bif pu j then f j = vs j else K j (f j) w') → seqW P l Q (l.length - n0) n0 (tmOf a l f) w') : (Code.region id l.toArray true).wp P Q a w := by
  refine wp_region_flow_tail' n0 hm hE hT hn0 (fun i v w => bif pu i then v = vs i else K i v w) (fun ww => Below w.heap.size w ww) ((Below.refl _ _).drew) ?_ ?_ ?_
  · intro i v w1 w2 _ _ hb h
    cases e : pu i
    · rw [e] at h; simp only [cond_false] at h ⊢; exact mono i v _ _ hb h
    · rw [e] at h; simp only [cond_true] at h ⊢; exact h
  · intro i hi f w' hS hd
    refine wpOp_mono (fun a' w'' h => ?_) (step i hi f w' hS hd)
    obtain ⟨v, h1, h2, h3⟩ := h
    exact ⟨v, h1, h2, hS.trans (h3.mono hS.size), h3⟩
  · intro f w' hS hd
    exact last f w' hS hd

theorem wp_region_kn' {id : Nat} {l : List Oper} {a : Act} {w : World} (pu : Nat → Bool) (vs : Nat → Value) (K : Nat → Value → World → Prop) (hm : P.follows .mixedOrders = true) (hE : earlierB l = true)
    (mono : ∀ i v w w', Below w.heap.size w w' → K i v w → K i v w')
    (step : ∀ i, i < l.length → ∀ f w', Below w.heap.size w w' → (∀ j, depB l i j = true → bif pu j then f j = vs j else K j (f j) w') → wpOp P l.toArray Q i (fun a' w'' => ∃ v, a' = tmOf a l (upd f i v) ∧ (bif pu i then v = vs i else K i v w'') ∧ Below w'.heap.size w' w'') (tmOf a l f) w')
    (done : ∀ f w', Below w.heap.size w w' → (∀ j, j < l.length → bif pu j then f j = vs j else K j (f j) w') → Q .normal (tmOf a l f) w') : (Code.region id l.toArray true).wp P Q a w := by
  refine wp_region_flow' hm hE (fun i v w => bif pu i then v = vs i else K i v w) (fun ww => Below w.heap.size w ww) ((Below.refl _ _).drew) ?_ ?_ ?_
  · intro i v w1 w2 _ _ hb h
    cases e : pu i
    · rw [e] at h; simp only [cond_false] at h ⊢; exact mono i v _ _ hb h
    · rw [e] at h; simp only [cond_true] at h ⊢; exact h
  · intro i hi f w' hS hd
    refine wpOp_mono (fun a' w'' h => ?_) (step i hi f w' hS hd)
    obtain ⟨v, h1, h2, h3⟩ := h
    exact ⟨v, h1, h2, hS.trans (h3.mono hS.size), h3⟩
  · intro f w' hS hd
    exact done f w' hS hd

end Go.Proofs.YtimkeblcdodfmaaGreat

namespace Go.Proofs.YtimkeblcdodfmaaGreat
open Go.RowKit Go.Shelf
attribute [local go_sem] Oper.semAt_some

theorem sums3 (w : World) (xh xl yh yl zh zl : Int) (x y z : Int) (h : (hiW x = xh ∧ loW x = xl) ∧ (hiW y = yh ∧ loW y = yl) ∧ (hiW z = zh ∧ loW z = zl)) : RdSum (w.alloc (.cells #[.int .u64 xh, .int .u64 xl, .int .u64 yh, .int .u64 yl, .int .u64 zh, .int .u64 zl] 90)) (some ⟨w.heap.size, 0, none⟩) [x, y, z] := by
  obtain ⟨⟨rfl, rfl⟩, ⟨rfl, rfl⟩, ⟨rfl, rfl⟩⟩ := h
  have hB := Blk.new w #[.int .u64 (hiW x), .int .u64 (loW x), .int .u64 (hiW y), .int .u64 (loW y), .int .u64 (hiW z), .int .u64 (loW z)] 90
  intro i q hi
  match i, hi with
  | 0, hi => cases hi; exact ⟨_, 0, rfl, hB.lt, hB.cell (i := 0) rfl, hB.cell (i := 1) rfl⟩
  | 1, hi => cases hi; exact ⟨_, 0, rfl, hB.lt, hB.cell (i := 2) rfl, hB.cell (i := 3) rfl⟩
  | 2, hi => cases hi; exact ⟨_, 0, rfl, hB.lt, hB.cell (i := 4) rfl, hB.cell (i := 5) rfl⟩
  | i + 3, hi => simp at hi

theorem bw6 (w : World) (a b c d e f : Obj) : Below w.heap.size w ((((((w.alloc a).alloc b).alloc c).alloc d).alloc e).alloc f) :=
  (((bw3 w a b c).alloc (bw3 w a b c).size d).alloc ((bw3 w a b c).alloc (bw3 w a b c).size d).size e).alloc (((bw3 w a b c).alloc (bw3 w a b c).size d).alloc ((bw3 w a b c).alloc (bw3 w a b c).size d).size e).size f

set_option maxRecDepth 100000 in
set_option maxHeartbeats 8000000 in
theorem minor_any (i j k : Nat) (p q r : V4) (w : World) (hi4 : i < 4) (hj4 : j < 4) (hk4 : k < 4) (hp : InV p) (hq : InV q) (hrr : InV r) :
    Calls Tryz.prog 96 #[.int .i64 (i : Int), .int .i64 (j : Int), .int .i64 (k : Int), .agg #[.int .i64 p.a, .int .i64 p.b, .int .i64 p.c, .int .i64 p.d], .agg #[.int .i64 q.a, .int .i64 q.b, .int .i64 q.c, .int .i64 q.d], .agg #[.int .i64 r.a, .int .i64 r.b, .int .i64 r.c, .int .i64 r.d]] w fun e w' => e = .returned (sumV (minorZ (vg p i) (vg p j) (vg p k) (vg q i) (vg q j) (vg q k) (vg r i) (vg r j) (vg r k))) ∧ Below w.heap.size w w' := by
  obtain ⟨w1, hw1⟩ : ∃ w1, ((((((w.alloc (.cells #[.int .i64 (i : Int)] 3)).alloc (.cells #[.int .i64 (j : Int)] 3)).alloc (.cells #[.int .i64 p.a, .int .i64 p.b, .int .i64 p.c, .int .i64 p.d] 22)).alloc (.cells #[.int .i64 q.a, .int .i64 q.b, .int .i64 q.c, .int .i64 q.d] 22)).alloc (.cells #[.int .i64 r.a, .int .i64 r.b, .int .i64 r.c, .int .i64 r.d] 22)).alloc (.cells #[.int .u64 0, .int .u64 0] 90)) = w1 := ⟨_, rfl⟩
  have hb1 : Below w.heap.size w w1 := by rw [← hw1]; exact bw6 w _ _ _ _ _ _
  have k0 : Blk w1 (w.heap.size) #[.int .i64 (i : Int)] 3 := by rw [← hw1]; exact (((((Blk.new w _ _).alloc _).alloc _).alloc _).alloc _).alloc _
  have k1 : Blk w1 (w.heap.size + 1) #[.int .i64 (j : Int)] 3 := by rw [← hw1]; exact ((((Blk.new' _ _ _ (by simp)).alloc _).alloc _).alloc _).alloc _
  have k2 : Blk w1 (w.heap.size + 1 + 1) #[.int .i64 p.a, .int .i64 p.b, .int .i64 p.c, .int .i64 p.d] 22 := by rw [← hw1]; exact (((Blk.new' _ _ _ (by simp)).alloc _).alloc _).alloc _
  have k3 : Blk w1 (w.heap.size + 1 + 1 + 1) #[.int .i64 q.a, .int .i64 q.b, .int .i64 q.c, .int .i64 q.d] 22 := by rw [← hw1]; exact ((Blk.new' _ _ _ (by simp)).alloc _).alloc _
  have k4 : Blk w1 (w.heap.size + 1 + 1 + 1 + 1) #[.int .i64 r.a, .int .i64 r.b, .int .i64 r.c, .int .i64 r.d] 22 := by rw [← hw1]; exact (Blk.new' _ _ _ (by simp)).alloc _
  have k5 : Blk w1 (w.heap.size + 1 + 1 + 1 + 1 + 1) #[.int .u64 0, .int .u64 0] 90 := by rw [← hw1]; exact Blk.new' _ _ _ (by simp)
  have hA0 := fun W h0 h1 l0 l1 => area_any (w.heap.size) (w.heap.size + 1) i j p q W hi4 hj4 hp hq h0 h1 l0 l1
  have hB0 := fun W h0 h1 l0 l1 => area_any (w.heap.size) (w.heap.size + 1) i j q r W hi4 hj4 hq hrr h0 h1 l0 l1
  have hC0 := fun W h0 h1 l0 l1 => area_any (w.heap.size) (w.heap.size + 1) i j r p W hi4 hj4 hrr hp h0 h1 l0 l1
  have a0 := vg_in hp k
  have a1 := vg_in hq k
  have a2 := vg_in hrr k
  unfold InI64 at a0 a1 a2
  have hx := fun W => times_any (vg p i * vg q j - vg p j * vg q i) (vg r k) W a2.1 a2.2
  have hy := fun W => times_any (vg q i * vg r j - vg q j * vg r i) (vg p k) W a0.1 a0.2
  have hz := fun W => times_any (vg r i * vg p j - vg r j * vg p i) (vg q k) W a1.1 a1.2
  obtain ⟨x, hxe⟩ : ∃ x, (vg p i * vg q j - vg p j * vg q i) * vg r k = x := ⟨_, rfl⟩
  obtain ⟨y, hye⟩ : ∃ x, (vg q i * vg r j - vg q j * vg r i) * vg p k = x := ⟨_, rfl⟩
  obtain ⟨z, hze⟩ : ∃ x, (vg r i * vg p j - vg r j * vg p i) * vg q k = x := ⟨_, rfl⟩
  have hm : minorZ (vg p i) (vg p j) (vg p k) (vg q i) (vg q j) (vg q k) (vg r i) (vg r j) (vg r k) = sumI [x, y, z] := by
    unfold minorZ sumI; rw [hxe, hye, hze]; simp
  rw [hm]
  rw [hxe] at hx
  rw [hye] at hy
  rw [hze] at hz
  have hu : ∀ B W, RdSum W (some ⟨B, 0, none⟩) [x, y, z] → Calls Tryz.prog 90 #[.slice (some ⟨B, 0, none⟩) 3 3] W fun e w' => e = .returned (sumV (sumI [x, y, z])) ∧ Below W.heap.size W w' := fun B W h => total_any _ 3 3 [x, y, z] W rfl (by decide) h
  clear hm hxe hye hze
  obtain ⟨xh, hxh⟩ : ∃ v, hiW x = v := ⟨_, rfl⟩
  obtain ⟨xl, hxl⟩ : ∃ v, loW x = v := ⟨_, rfl⟩
  obtain ⟨yh, hyh⟩ : ∃ v, hiW y = v := ⟨_, rfl⟩
  obtain ⟨yl, hyl⟩ : ∃ v, loW y = v := ⟨_, rfl⟩
  obtain ⟨zh, hzh⟩ : ∃ v, hiW z = v := ⟨_, rfl⟩
  obtain ⟨zl, hzl⟩ : ∃ v, loW z = v := ⟨_, rfl⟩
  have HW := Lib.hid (And.intro (And.intro hxh hxl) (And.intro (And.intro hyh hyl) (And.intro hzh hzl)))
  unfold sumV at hA0 hB0 hC0 hx hy hz hu ⊢
  rw [hxh, hxl] at hx
  rw [hyh, hyl] at hy
  rw [hzh, hzl] at hz
  clear hxh hxl hyh hyl hzh hzl
  generalize hiW (sumI [x, y, z]) = uh at *
  generalize loW (sumI [x, y, z]) = ul at *
  generalize hiW (vg p i * vg q j - vg p j * vg q i) = ah at *
  generalize loW (vg p i * vg q j - vg p j * vg q i) = al at *
  generalize hiW (vg q i * vg r j - vg q j * vg r i) = bh at *
  generalize loW (vg q i * vg r j - vg q j * vg r i) = bl at *
  generalize hiW (vg r i * vg p j - vg r j * vg p i) = ch at *
  generalize loW (vg r i * vg p j - vg r j * vg p i) = cl at *
  have HA := Lib.hid hA0
  have HB := Lib.hid hB0
  have HC := Lib.hid hC0
  have HX := Lib.hid hx
  have HY := Lib.hid hy
  have HZ := Lib.hid hz
  have HU := Lib.hid hu
  have hki : (k : Int) < 4 := by omega
  clear hx hy hz hu a0 a1 a2 hp hq hrr hA0 hB0 hC0
  go_enter Tryz.func96, Tryz.ntmps96
  go_upto_region 2 with fail
  refine wp_region_kn 26 (fun ix => ix != 24) (fun ix => match ix with | 0 => .func (.func 120) #[] #[.pointer (some ⟨w.heap.size, 0, none⟩), .pointer (some ⟨w.heap.size + 1, 0, none⟩)] | 1 => .agg #[.int .i64 p.a, .int .i64 p.b, .int .i64 p.c, .int .i64 p.d] | 2 => .agg #[.int .i64 q.a, .int .i64 q.b, .int .i64 q.c, .int .i64 q.d] | 3 => .agg #[.int .u64 ah, .int .u64 al] | 4 => .int .i64 (k : Int) | 5 => .pointer (some ⟨w.heap.size + 1 + 1 + 1 + 1, k, none⟩) | 6 => .int .i64 (vg r k) | 7 => .agg #[.int .u64 xh, .int .u64 xl] | 8 => .func (.func 120) #[] #[.pointer (some ⟨w.heap.size, 0, none⟩), .pointer (some ⟨w.heap.size + 1, 0, none⟩)] | 9 => .agg #[.int .i64 q.a, .int .i64 q.b, .int .i64 q.c, .int .i64 q.d] | 10 => .agg #[.int .i64 r.a, .int .i64 r.b, .int .i64 r.c, .int .i64 r.d] | 11 => .agg #[.int .u64 bh, .int .u64 bl] | 12 => .int .i64 (k : Int) | 13 => .pointer (some ⟨w.heap.size + 1 + 1, k, none⟩) | 14 => .int .i64 (vg p k) | 15 => .agg #[.int .u64 yh, .int .u64 yl] | 16 => .func (.func 120) #[] #[.pointer (some ⟨w.heap.size, 0, none⟩), .pointer (some ⟨w.heap.size + 1, 0, none⟩)] | 17 => .agg #[.int .i64 r.a, .int .i64 r.b, .int .i64 r.c, .int .i64 r.d] | 18 => .agg #[.int .i64 p.a, .int .i64 p.b, .int .i64 p.c, .int .i64 p.d] | 19 => .agg #[.int .u64 ch, .int .u64 cl] | 20 => .int .i64 (k : Int) | 21 => .pointer (some ⟨w.heap.size + 1 + 1 + 1, k, none⟩) | 22 => .int .i64 (vg q k) | 23 => .agg #[.int .u64 zh, .int .u64 zl] | _ => .agg #[.int .u64 uh, .int .u64 ul]) (fun _ v w => ∃ B, v = .slice (some ⟨B, 0, none⟩) 3 3 ∧ RdSum w (some ⟨B, 0, none⟩) [x, y, z]) (by kernel_rfl) (by kernel_rfl) (by kernel_rfl) (by decide) ?_ ?_ ?_
  · rintro ix v w8 w9 hb9 ⟨B, e, h⟩
    exact ⟨B, e, h.below hb9⟩
  · rintro ix hx f ww hS hd
    have k0 := k0.kept hS
    have k1 := k1.kept hS
    have k2 := k2.kept hS
    have k3 := k3.kept hS
    have k4 := k4.kept hS
    have f0 := k0.cell (i := 0) rfl
    have f1 := k1.cell (i := 0) rfl
    have f2 := k0.lt
    have f3 := k1.lt
    have pp0 := k2.cell (i := 0) rfl
    have pp1 := k2.cell (i := 1) rfl
    have pp2 := k2.cell (i := 2) rfl
    have pp3 := k2.cell (i := 3) rfl
    have pq0 := k3.cell (i := 0) rfl
    have pq1 := k3.cell (i := 1) rfl
    have pq2 := k3.cell (i := 2) rfl
    have pq3 := k3.cell (i := 3) rfl
    have pr0 := k4.cell (i := 0) rfl
    have pr1 := k4.cell (i := 1) rfl
    have pr2 := k4.cell (i := 2) rfl
    have pr3 := k4.cell (i := 3) rfl
    have gp := k2.vg hk4
    have gq := k3.vg hk4
    have gr := k4.vg hk4
    rcases ix with _ | _ | _ | _ | _ | _ | _ | _ | _ | _ | _ | _ | _ | _ | _ | _ | _ | _ | _ | _ | _ | _ | _ | _ | _ | _ | ix
    · refine wpOp_list rfl ?_
      simp only [tmOf, putAll, List.map_cons, List.map_nil, List.setIfInBounds_toArray, List.set_cons_zero, List.set_cons_succ]
      go_wp2
      refine ⟨.func (.func 120) #[] #[.pointer (some ⟨w.heap.size, 0, none⟩), .pointer (some ⟨w.heap.size + 1, 0, none⟩)], ?_⟩
      simp [upd, Below.refl]
    · refine wpOp_list rfl ?_
      simp only [tmOf, putAll, List.map_cons, List.map_nil, List.setIfInBounds_toArray, List.set_cons_zero, List.set_cons_succ]
      go_wp2
      refine ⟨.agg #[.int .i64 p.a, .int .i64 p.b, .int .i64 p.c, .int .i64 p.d], ?_⟩
      simp [upd, Below.refl]
    · refine wpOp_list rfl ?_
      simp only [tmOf, putAll, List.map_cons, List.map_nil, List.setIfInBounds_toArray, List.set_cons_zero, List.set_cons_succ]
      go_wp2
      refine ⟨.agg #[.int .i64 q.a, .int .i64 q.b, .int .i64 q.c, .int .i64 q.d], ?_⟩
      simp [upd, Below.refl]
    · have g0 : f 0 = .func (.func 120) #[] #[.pointer (some ⟨w.heap.size, 0, none⟩), .pointer (some ⟨w.heap.size + 1, 0, none⟩)] := hd 0 (by kernel_rfl)
      have g1 : f 1 = .agg #[.int .i64 p.a, .int .i64 p.b, .int .i64 p.c, .int .i64 p.d] := hd 1 (by kernel_rfl)
      have g2 : f 2 = .agg #[.int .i64 q.a, .int .i64 q.b, .int .i64 q.c, .int .i64 q.d] := hd 2 (by kernel_rfl)
      refine wpOp_list rfl ?_
      simp only [tmOf, putAll, List.map_cons, List.map_nil, List.setIfInBounds_toArray, List.set_cons_zero, List.set_cons_succ]
      go_wp2_with fail
      refine (HA.out _ f0 f1 f2 f3).mono ?_
      rintro e' wf ⟨rfl, hbf⟩
      go_wp2_with fail
      try refine ⟨.agg #[.int .u64 ah, .int .u64 al], ?_⟩
      simp [upd, g0, g1, g2, hbf]
    · refine wpOp_list rfl ?_
      simp only [tmOf, putAll, List.map_cons, List.map_nil, List.setIfInBounds_toArray, List.set_cons_zero, List.set_cons_succ]
      go_wp2
      refine ⟨.int .i64 (k : Int), ?_⟩
      simp [upd, Below.refl]
    · have g4 : f 4 = .int .i64 (k : Int) := hd 4 (by kernel_rfl)
      refine wpOp_list rfl ?_
      simp only [tmOf, putAll, List.map_cons, List.map_nil, List.setIfInBounds_toArray, List.set_cons_zero, List.set_cons_succ]
      go_wp2
      refine ⟨.pointer (some ⟨w.heap.size + 1 + 1 + 1 + 1, k, none⟩), ?_⟩
      simp [upd, g4, Below.refl]
    · have g5 : f 5 = .pointer (some ⟨w.heap.size + 1 + 1 + 1 + 1, k, none⟩) := hd 5 (by kernel_rfl)
      refine wpOp_list rfl ?_
      simp only [tmOf, putAll, List.map_cons, List.map_nil, List.setIfInBounds_toArray, List.set_cons_zero, List.set_cons_succ]
      go_wp2
      refine ⟨.int .i64 (vg r k), ?_⟩
      simp [upd, g5, Below.refl]
    · have g3 : f 3 = .agg #[.int .u64 ah, .int .u64 al] := hd 3 (by kernel_rfl)
      have g6 : f 6 = .int .i64 (vg r k) := hd 6 (by kernel_rfl)
      refine wpOp_list rfl ?_
      simp only [tmOf, putAll, List.map_cons, List.map_nil, List.setIfInBounds_toArray, List.set_cons_zero, List.set_cons_succ]
      go_wp2_with fail
      refine (HX.out _).mono ?_
      rintro e' wf ⟨rfl, hbf⟩
      go_wp2_with fail
      try refine ⟨.agg #[.int .u64 xh, .int .u64 xl], ?_⟩
      simp [upd, g3, g6, hbf]
    · refine wpOp_list rfl ?_
      simp only [tmOf, putAll, List.map_cons, List.map_nil, List.setIfInBounds_toArray, List.set_cons_zero, List.set_cons_succ]
      go_wp2
      refine ⟨.func (.func 120) #[] #[.pointer (some ⟨w.heap.size, 0, none⟩), .pointer (some ⟨w.heap.size + 1, 0, none⟩)], ?_⟩
      simp [upd, Below.refl]
    · refine wpOp_list rfl ?_
      simp only [tmOf, putAll, List.map_cons, List.map_nil, List.setIfInBounds_toArray, List.set_cons_zero, List.set_cons_succ]
      go_wp2
      refine ⟨.agg #[.int .i64 q.a, .int .i64 q.b, .int .i64 q.c, .int .i64 q.d], ?_⟩
      simp [upd, Below.refl]
    · refine wpOp_list rfl ?_
      simp only [tmOf, putAll, List.map_cons, List.map_nil, List.setIfInBounds_toArray, List.set_cons_zero, List.set_cons_succ]
      go_wp2
      refine ⟨.agg #[.int .i64 r.a, .int .i64 r.b, .int .i64 r.c, .int .i64 r.d], ?_⟩
      simp [upd, Below.refl]
    · have g8 : f 8 = .func (.func 120) #[] #[.pointer (some ⟨w.heap.size, 0, none⟩), .pointer (some ⟨w.heap.size + 1, 0, none⟩)] := hd 8 (by kernel_rfl)
      have g9 : f 9 = .agg #[.int .i64 q.a, .int .i64 q.b, .int .i64 q.c, .int .i64 q.d] := hd 9 (by kernel_rfl)
      have g10 : f 10 = .agg #[.int .i64 r.a, .int .i64 r.b, .int .i64 r.c, .int .i64 r.d] := hd 10 (by kernel_rfl)
      refine wpOp_list rfl ?_
      simp only [tmOf, putAll, List.map_cons, List.map_nil, List.setIfInBounds_toArray, List.set_cons_zero, List.set_cons_succ]
      go_wp2_with fail
      refine (HB.out _ f0 f1 f2 f3).mono ?_
      rintro e' wf ⟨rfl, hbf⟩
      go_wp2_with fail
      try refine ⟨.agg #[.int .u64 bh, .int .u64 bl], ?_⟩
      simp [upd, g8, g9, g10, hbf]
    · refine wpOp_list rfl ?_
      simp only [tmOf, putAll, List.map_cons, List.map_nil, List.setIfInBounds_toArray, List.set_cons_zero, List.set_cons_succ]
      go_wp2
      refine ⟨.int .i64 (k : Int), ?_⟩
      simp [upd, Below.refl]
    · have g12 : f 12 = .int .i64 (k : Int) := hd 12 (by kernel_rfl)
      refine wpOp_list rfl ?_
      simp only [tmOf, putAll, List.map_cons, List.map_nil, List.setIfInBounds_toArray, List.set_cons_zero, List.set_cons_succ]
      go_wp2
      refine ⟨.pointer (some ⟨w.heap.size + 1 + 1, k, none⟩), ?_⟩
      simp [upd, g12, Below.refl]
    · have g13 : f 13 = .pointer (some ⟨w.heap.size + 1 + 1, k, none⟩) := hd 13 (by kernel_rfl)
      refine wpOp_list rfl ?_
      simp only [tmOf, putAll, List.map_cons, List.map_nil, List.setIfInBounds_toArray, List.set_cons_zero, List.set_cons_succ]
      go_wp2
      refine ⟨.int .i64 (vg p k), ?_⟩
      simp [upd, g13, Below.refl]
    · have g11 : f 11 = .agg #[.int .u64 bh, .int .u64 bl] := hd 11 (by kernel_rfl)
      have g14 : f 14 = .int .i64 (vg p k) := hd 14 (by kernel_rfl)
      refine wpOp_list rfl ?_
      simp only [tmOf, putAll, List.map_cons, List.map_nil, List.setIfInBounds_toArray, List.set_cons_zero, List.set_cons_succ]
      go_wp2_with fail
      refine (HY.out _).mono ?_
      rintro e' wf ⟨rfl, hbf⟩
      go_wp2_with fail
      try refine ⟨.agg #[.int .u64 yh, .int .u64 yl], ?_⟩
      simp [upd, g11, g14, hbf]
    · refine wpOp_list rfl ?_
      simp only [tmOf, putAll, List.map_cons, List.map_nil, List.setIfInBounds_toArray, List.set_cons_zero, List.set_cons_succ]
      go_wp2
      refine ⟨.func (.func 120) #[] #[.pointer (some ⟨w.heap.size, 0, none⟩), .pointer (some ⟨w.heap.size + 1, 0, none⟩)], ?_⟩
      simp [upd, Below.refl]
    · refine wpOp_list rfl ?_
      simp only [tmOf, putAll, List.map_cons, List.map_nil, List.setIfInBounds_toArray, List.set_cons_zero, List.set_cons_succ]
      go_wp2
      refine ⟨.agg #[.int .i64 r.a, .int .i64 r.b, .int .i64 r.c, .int .i64 r.d], ?_⟩
      simp [upd, Below.refl]
    · refine wpOp_list rfl ?_
      simp only [tmOf, putAll, List.map_cons, List.map_nil, List.setIfInBounds_toArray, List.set_cons_zero, List.set_cons_succ]
      go_wp2
      refine ⟨.agg #[.int .i64 p.a, .int .i64 p.b, .int .i64 p.c, .int .i64 p.d], ?_⟩
      simp [upd, Below.refl]
    · have g16 : f 16 = .func (.func 120) #[] #[.pointer (some ⟨w.heap.size, 0, none⟩), .pointer (some ⟨w.heap.size + 1, 0, none⟩)] := hd 16 (by kernel_rfl)
      have g17 : f 17 = .agg #[.int .i64 r.a, .int .i64 r.b, .int .i64 r.c, .int .i64 r.d] := hd 17 (by kernel_rfl)
      have g18 : f 18 = .agg #[.int .i64 p.a, .int .i64 p.b, .int .i64 p.c, .int .i64 p.d] := hd 18 (by kernel_rfl)
      refine wpOp_list rfl ?_
      simp only [tmOf, putAll, List.map_cons, List.map_nil, List.setIfInBounds_toArray, List.set_cons_zero, List.set_cons_succ]
      go_wp2_with fail
      refine (HC.out _ f0 f1 f2 f3).mono ?_
      rintro e' wf ⟨rfl, hbf⟩
      go_wp2_with fail
      try refine ⟨.agg #[.int .u64 ch, .int .u64 cl], ?_⟩
      simp [upd, g16, g17, g18, hbf]
    · refine wpOp_list rfl ?_
      simp only [tmOf, putAll, List.map_cons, List.map_nil, List.setIfInBounds_toArray, List.set_cons_zero, List.set_cons_succ]
      go_wp2
      refine ⟨.int .i64 (k : Int), ?_⟩
      simp [upd, Below.refl]
    · have g20 : f 20 = .int .i64 (k : Int) := hd 20 (by kernel_rfl)
      refine wpOp_list rfl ?_
      simp only [tmOf, putAll, List.map_cons, List.map_nil, List.setIfInBounds_toArray, List.set_cons_zero, List.set_cons_succ]
      go_wp2
      refine ⟨.pointer (some ⟨w.heap.size + 1 + 1 + 1, k, none⟩), ?_⟩
      simp [upd, g20, Below.refl]
    · have g21 : f 21 = .pointer (some ⟨w.heap.size + 1 + 1 + 1, k, none⟩) := hd 21 (by kernel_rfl)
      refine wpOp_list rfl ?_
      simp only [tmOf, putAll, List.map_cons, List.map_nil, List.setIfInBounds_toArray, List.set_cons_zero, List.set_cons_succ]
      go_wp2
      refine ⟨.int .i64 (vg q k), ?_⟩
      simp [upd, g21, Below.refl]
    · have g19 : f 19 = .agg #[.int .u64 ch, .int .u64 cl] := hd 19 (by kernel_rfl)
      have g22 : f 22 = .int .i64 (vg q k) := hd 22 (by kernel_rfl)
      refine wpOp_list rfl ?_
      simp only [tmOf, putAll, List.map_cons, List.map_nil, List.setIfInBounds_toArray, List.set_cons_zero, List.set_cons_succ]
      go_wp2_with fail
      refine (HZ.out _).mono ?_
      rintro e' wf ⟨rfl, hbf⟩
      go_wp2_with fail
      try refine ⟨.agg #[.int .u64 zh, .int .u64 zl], ?_⟩
      simp [upd, g19, g22, hbf]
    · have g7 : f 7 = .agg #[.int .u64 xh, .int .u64 xl] := hd 7 (by kernel_rfl)
      have g15 : f 15 = .agg #[.int .u64 yh, .int .u64 yl] := hd 15 (by kernel_rfl)
      have g23 : f 23 = .agg #[.int .u64 zh, .int .u64 zl] := hd 23 (by kernel_rfl)
      refine wpOp_list rfl ?_
      simp only [tmOf, putAll, List.map_cons, List.map_nil, List.setIfInBounds_toArray, List.set_cons_zero, List.set_cons_succ]
      go_wp2
      exact ⟨.slice (some ⟨ww.heap.size, 0, none⟩) 3 3, by simp [upd, g7, g15, g23], ⟨_, rfl, sums3 ww xh xl yh yl zh zl _ _ _ HW.out⟩, (Below.refl _ ww).alloc (Nat.le_refl _) _⟩
    · obtain ⟨B, g24, hr⟩ : ∃ B, f 24 = .slice (some ⟨B, 0, none⟩) 3 3 ∧ RdSum ww (some ⟨B, 0, none⟩) [x, y, z] := hd 24 (by kernel_rfl)
      refine wpOp_list rfl ?_
      simp only [tmOf, putAll, List.map_cons, List.map_nil, List.setIfInBounds_toArray, List.set_cons_zero, List.set_cons_succ]
      go_wp2_with fail
      refine (HU.out B _ hr).mono ?_
      rintro e' wf ⟨rfl, hbf⟩
      go_wp2_with fail
      try refine ⟨.agg #[.int .u64 uh, .int .u64 ul], ?_⟩
      simp [upd, g24, hbf]
    · omega
  · rintro f ww hS hd
    have K5 := k5.kept hS
    have d0 := K5.cell (i := 0) rfl
    have d1 := K5.cell (i := 1) rfl
    have q0 := K5.frozen 0
    have q1 := K5.frozen 1
    have g25 : f 25 = .agg #[.int .u64 uh, .int .u64 ul] := hd 25 (by decide)
    simp only [seqW, tmOf, putAll, List.map_cons, List.map_nil, List.setIfInBounds_toArray, List.set_cons_zero, List.set_cons_succ, List.length_cons, List.length_nil]
    refine wpOp_list rfl ?_
    go_wp2
    have L := (K5.set_eq 0 (.int .u64 uh) rfl).set_eq 1 (.int .u64 ul) rfl
    have z0 := L.cell (i := 0) rfl
    have z1 := L.cell (i := 1) rfl
    exact bodyPost_ret (v := .agg #[.int .u64 uh, .int .u64 ul]) (by simp [results, Tryz.results96, go_sem, z0, z1]) rfl ⟨rfl, ((hb1.trans (hS.mono hb1.size)).setCell (by simp only; omega) _).setCell (by simp only; omega) _⟩

end Go.Proofs.YtimkeblcdodfmaaGreat

namespace Go.Proofs.YtimkeblcdodfmaaGreat
open Go.RowKit Go.Shelf
attribute [local go_sem] Oper.semAt_some

def crossX (p q r : V4) : Int := minorZ p.b p.c p.d q.b q.c q.d r.b r.c r.d
def crossY (p q r : V4) : Int := minorZ p.c p.a p.d q.c q.a q.d r.c r.a r.d
def crossZ (p q r : V4) : Int := minorZ p.a p.b p.d q.a q.b q.d r.a r.b r.d
/-- Three sums. -/
def sum3V (x y z : Int) : Value := .agg #[.int .u64 (hiW x), .int .u64 (loW x), .int .u64 (hiW y), .int .u64 (loW y), .int .u64 (hiW z), .int .u64 (loW z)]

theorem Blk.put6 {W : World} {B : Nat} {a b c d e f : Value} {t : TypeId} (h : Blk W B #[a, b, c, d, e, f] t) (a' b' c' d' e' f' : Value) : Blk ((((((W.setCell ⟨B, 0, none⟩ a').setCell ⟨B, 1, none⟩ b').setCell ⟨B, 2, none⟩ c').setCell ⟨B, 3, none⟩ d').setCell ⟨B, 4, none⟩ e').setCell ⟨B, 5, none⟩ f') B #[a', b', c', d', e', f'] t :=
  (((((h.set_eq 0 a' rfl).set_eq 1 b' rfl).set_eq 2 c' rfl).set_eq 3 d' rfl).set_eq 4 e' rfl).set_eq 5 f' rfl

theorem bw4' (w : World) (a b c d : Obj) : Below w.heap.size w ((((w.alloc a).alloc b).alloc c).alloc d) := (bw3 w a b c).alloc (bw3 w a b c).size d

set_option maxRecDepth 100000 in
set_option maxHeartbeats 8000000 in
theorem cross_any (p q r : V4) (w : World) (hp : InV p) (hq : InV q) (hrr : InV r) :
    Calls Tryz.prog 97 #[.agg #[.int .i64 p.a, .int .i64 p.b, .int .i64 p.c, .int .i64 p.d], .agg #[.int .i64 q.a, .int .i64 q.b, .int .i64 q.c, .int .i64 q.d], .agg #[.int .i64 r.a, .int .i64 r.b, .int .i64 r.c, .int .i64 r.d]] w fun e w' => e = .returned (sum3V (crossX p q r) (crossY p q r) (crossZ p q r)) ∧ Below w.heap.size w w' := by
  obtain ⟨w1, hw1⟩ : ∃ w1, ((((w.alloc (.cells #[.int .i64 p.a, .int .i64 p.b, .int .i64 p.c, .int .i64 p.d] 22)).alloc (.cells #[.int .i64 q.a, .int .i64 q.b, .int .i64 q.c, .int .i64 q.d] 22)).alloc (.cells #[.int .i64 r.a, .int .i64 r.b, .int .i64 r.c, .int .i64 r.d] 22)).alloc (.cells #[.int .u64 0, .int .u64 0, .int .u64 0, .int .u64 0, .int .u64 0, .int .u64 0] 135)) = w1 := ⟨_, rfl⟩
  have hb1 : Below w.heap.size w w1 := by rw [← hw1]; exact bw4' w _ _ _ _
  have k0 : Blk w1 (w.heap.size) #[.int .i64 p.a, .int .i64 p.b, .int .i64 p.c, .int .i64 p.d] 22 := by rw [← hw1]; exact (((Blk.new w _ _).alloc _).alloc _).alloc _
  have k1 : Blk w1 (w.heap.size + 1) #[.int .i64 q.a, .int .i64 q.b, .int .i64 q.c, .int .i64 q.d] 22 := by rw [← hw1]; exact ((Blk.new' _ _ _ (by simp)).alloc _).alloc _
  have k2 : Blk w1 (w.heap.size + 1 + 1) #[.int .i64 r.a, .int .i64 r.b, .int .i64 r.c, .int .i64 r.d] 22 := by rw [← hw1]; exact (Blk.new' _ _ _ (by simp)).alloc _
  have k3 : Blk w1 (w.heap.size + 1 + 1 + 1) #[.int .u64 0, .int .u64 0, .int .u64 0, .int .u64 0, .int .u64 0, .int .u64 0] 135 := by rw [← hw1]; exact Blk.new' _ _ _ (by simp)
  have hx : ∀ W, Calls Tryz.prog 96 #[.int .i64 1, .int .i64 2, .int .i64 3, .agg #[.int .i64 p.a, .int .i64 p.b, .int .i64 p.c, .int .i64 p.d], .agg #[.int .i64 q.a, .int .i64 q.b, .int .i64 q.c, .int .i64 q.d], .agg #[.int .i64 r.a, .int .i64 r.b, .int .i64 r.c, .int .i64 r.d]] W fun e w' => e = .returned (sumV (crossX p q r)) ∧ Below W.heap.size W w' := fun W => minor_any 1 2 3 p q r W (by decide) (by decide) (by decide) hp hq hrr
  have hy : ∀ W, Calls Tryz.prog 96 #[.int .i64 2, .int .i64 0, .int .i64 3, .agg #[.int .i64 p.a, .int .i64 p.b, .int .i64 p.c, .int .i64 p.d], .agg #[.int .i64 q.a, .int .i64 q.b, .int .i64 q.c, .int .i64 q.d], .agg #[.int .i64 r.a, .int .i64 r.b, .int .i64 r.c, .int .i64 r.d]] W fun e w' => e = .returned (sumV (crossY p q r)) ∧ Below W.heap.size W w' := fun W => minor_any 2 0 3 p q r W (by decide) (by decide) (by decide) hp hq hrr
  have hz : ∀ W, Calls Tryz.prog 96 #[.int .i64 0, .int .i64 1, .int .i64 3, .agg #[.int .i64 p.a, .int .i64 p.b, .int .i64 p.c, .int .i64 p.d], .agg #[.int .i64 q.a, .int .i64 q.b, .int .i64 q.c, .int .i64 q.d], .agg #[.int .i64 r.a, .int .i64 r.b, .int .i64 r.c, .int .i64 r.d]] W fun e w' => e = .returned (sumV (crossZ p q r)) ∧ Below W.heap.size W w' := fun W => minor_any 0 1 3 p q r W (by decide) (by decide) (by decide) hp hq hrr
  unfold sumV at hx hy hz
  unfold sum3V
  generalize hiW (crossX p q r) = xh at *
  generalize loW (crossX p q r) = xl at *
  generalize hiW (crossY p q r) = yh at *
  generalize loW (crossY p q r) = yl at *
  generalize hiW (crossZ p q r) = zh at *
  generalize loW (crossZ p q r) = zl at *
  have HX := Lib.hid hx
  have HY := Lib.hid hy
  have HZ := Lib.hid hz
  clear hx hy hz hp hq hrr
  go_enter Tryz.func97, Tryz.ntmps97
  go_upto_region 1 with fail
  refine wp_region_pure 13 (fun ix => match ix with | 0 => .agg #[.int .i64 p.a, .int .i64 p.b, .int .i64 p.c, .int .i64 p.d] | 1 => .agg #[.int .i64 q.a, .int .i64 q.b, .int .i64 q.c, .int .i64 q.d] | 2 => .agg #[.int .i64 r.a, .int .i64 r.b, .int .i64 r.c, .int .i64 r.d] | 3 => .agg #[.int .u64 xh, .int .u64 xl] | 4 => .agg #[.int .i64 p.a, .int .i64 p.b, .int .i64 p.c, .int .i64 p.d] | 5 => .agg #[.int .i64 q.a, .int .i64 q.b, .int .i64 q.c, .int .i64 q.d] | 6 => .agg #[.int .i64 r.a, .int .i64 r.b, .int .i64 r.c, .int .i64 r.d] | 7 => .agg #[.int .u64 yh, .int .u64 yl] | 8 => .agg #[.int .i64 p.a, .int .i64 p.b, .int .i64 p.c, .int .i64 p.d] | 9 => .agg #[.int .i64 q.a, .int .i64 q.b, .int .i64 q.c, .int .i64 q.d] | 10 => .agg #[.int .i64 r.a, .int .i64 r.b, .int .i64 r.c, .int .i64 r.d] | 11 => .agg #[.int .u64 zh, .int .u64 zl] | _ => .agg #[.int .u64 xh, .int .u64 xl, .int .u64 yh, .int .u64 yl, .int .u64 zh, .int .u64 zl]) (by kernel_rfl) (by kernel_rfl) (by kernel_rfl) ?_ ?_ ?_
  · decide
  · rintro ix hx f ww hS hd
    have k0 := k0.kept hS
    have k1 := k1.kept hS
    have k2 := k2.kept hS
    have p00 := k0.cell (i := 0) rfl
    have p01 := k0.cell (i := 1) rfl
    have p02 := k0.cell (i := 2) rfl
    have p03 := k0.cell (i := 3) rfl
    have p10 := k1.cell (i := 0) rfl
    have p11 := k1.cell (i := 1) rfl
    have p12 := k1.cell (i := 2) rfl
    have p13 := k1.cell (i := 3) rfl
    have p20 := k2.cell (i := 0) rfl
    have p21 := k2.cell (i := 1) rfl
    have p22 := k2.cell (i := 2) rfl
    have p23 := k2.cell (i := 3) rfl
    rcases ix with _ | _ | _ | _ | _ | _ | _ | _ | _ | _ | _ | _ | _ | ix
    · refine wpOp_list rfl ?_
      simp only [tmOf, putAll, List.map_cons, List.map_nil, List.setIfInBounds_toArray, List.set_cons_zero, List.set_cons_succ]
      go_wp2
      simp [upd, Below.refl]
    · refine wpOp_list rfl ?_
      simp only [tmOf, putAll, List.map_cons, List.map_nil, List.setIfInBounds_toArray, List.set_cons_zero, List.set_cons_succ]
      go_wp2
      simp [upd, Below.refl]
    · refine wpOp_list rfl ?_
      simp only [tmOf, putAll, List.map_cons, List.map_nil, List.setIfInBounds_toArray, List.set_cons_zero, List.set_cons_succ]
      go_wp2
      simp [upd, Below.refl]
    · have g0 : f 0 = .agg #[.int .i64 p.a, .int .i64 p.b, .int .i64 p.c, .int .i64 p.d] := hd 0 (by kernel_rfl)
      have g1 : f 1 = .agg #[.int .i64 q.a, .int .i64 q.b, .int .i64 q.c, .int .i64 q.d] := hd 1 (by kernel_rfl)
      have g2 : f 2 = .agg #[.int .i64 r.a, .int .i64 r.b, .int .i64 r.c, .int .i64 r.d] := hd 2 (by kernel_rfl)
      refine wpOp_list rfl ?_
      simp only [tmOf, putAll, List.map_cons, List.map_nil, List.setIfInBounds_toArray, List.set_cons_zero, List.set_cons_succ]
      go_wp2_with fail
      refine (HX.out _).mono ?_
      rintro e' wf ⟨rfl, hbf⟩
      go_wp2_with fail
      simp [upd, g0, g1, g2, hbf]
    · refine wpOp_list rfl ?_
      simp only [tmOf, putAll, List.map_cons, List.map_nil, List.setIfInBounds_toArray, List.set_cons_zero, List.set_cons_succ]
      go_wp2
      simp [upd, Below.refl]
    · refine wpOp_list rfl ?_
      simp only [tmOf, putAll, List.map_cons, List.map_nil, List.setIfInBounds_toArray, List.set_cons_zero, List.set_cons_succ]
      go_wp2
      simp [upd, Below.refl]
    · refine wpOp_list rfl ?_
      simp only [tmOf, putAll, List.map_cons, List.map_nil, List.setIfInBounds_toArray, List.set_cons_zero, List.set_cons_succ]
      go_wp2
      simp [upd, Below.refl]
    · have g4 : f 4 = .agg #[.int .i64 p.a, .int .i64 p.b, .int .i64 p.c, .int .i64 p.d] := hd 4 (by kernel_rfl)
      have g5 : f 5 = .agg #[.int .i64 q.a, .int .i64 q.b, .int .i64 q.c, .int .i64 q.d] := hd 5 (by kernel_rfl)
      have g6 : f 6 = .agg #[.int .i64 r.a, .int .i64 r.b, .int .i64 r.c, .int .i64 r.d] := hd 6 (by kernel_rfl)
      refine wpOp_list rfl ?_
      simp only [tmOf, putAll, List.map_cons, List.map_nil, List.setIfInBounds_toArray, List.set_cons_zero, List.set_cons_succ]
      go_wp2_with fail
      refine (HY.out _).mono ?_
      rintro e' wf ⟨rfl, hbf⟩
      go_wp2_with fail
      simp [upd, g4, g5, g6, hbf]
    · refine wpOp_list rfl ?_
      simp only [tmOf, putAll, List.map_cons, List.map_nil, List.setIfInBounds_toArray, List.set_cons_zero, List.set_cons_succ]
      go_wp2
      simp [upd, Below.refl]
    · refine wpOp_list rfl ?_
      simp only [tmOf, putAll, List.map_cons, List.map_nil, List.setIfInBounds_toArray, List.set_cons_zero, List.set_cons_succ]
      go_wp2
      simp [upd, Below.refl]
    · refine wpOp_list rfl ?_
      simp only [tmOf, putAll, List.map_cons, List.map_nil, List.setIfInBounds_toArray, List.set_cons_zero, List.set_cons_succ]
      go_wp2
      simp [upd, Below.refl]
    · have g8 : f 8 = .agg #[.int .i64 p.a, .int .i64 p.b, .int .i64 p.c, .int .i64 p.d] := hd 8 (by kernel_rfl)
      have g9 : f 9 = .agg #[.int .i64 q.a, .int .i64 q.b, .int .i64 q.c, .int .i64 q.d] := hd 9 (by kernel_rfl)
      have g10 : f 10 = .agg #[.int .i64 r.a, .int .i64 r.b, .int .i64 r.c, .int .i64 r.d] := hd 10 (by kernel_rfl)
      refine wpOp_list rfl ?_
      simp only [tmOf, putAll, List.map_cons, List.map_nil, List.setIfInBounds_toArray, List.set_cons_zero, List.set_cons_succ]
      go_wp2_with fail
      refine (HZ.out _).mono ?_
      rintro e' wf ⟨rfl, hbf⟩
      go_wp2_with fail
      simp [upd, g8, g9, g10, hbf]
    · have g3 : f 3 = .agg #[.int .u64 xh, .int .u64 xl] := hd 3 (by kernel_rfl)
      have g7 : f 7 = .agg #[.int .u64 yh, .int .u64 yl] := hd 7 (by kernel_rfl)
      have g11 : f 11 = .agg #[.int .u64 zh, .int .u64 zl] := hd 11 (by kernel_rfl)
      refine wpOp_list rfl ?_
      simp only [tmOf, putAll, List.map_cons, List.map_nil, List.setIfInBounds_toArray, List.set_cons_zero, List.set_cons_succ]
      go_wp2
      simp [upd, g3, g7, g11, Below.refl]
    · omega
  · rintro f ww hS hd
    have K3 := k3.kept hS
    have d0 := K3.cell (i := 0) rfl
    have q0 := K3.frozen 0
    have d1 := K3.cell (i := 1) rfl
    have q1 := K3.frozen 1
    have d2 := K3.cell (i := 2) rfl
    have q2 := K3.frozen 2
    have d3 := K3.cell (i := 3) rfl
    have q3 := K3.frozen 3
    have d4 := K3.cell (i := 4) rfl
    have q4 := K3.frozen 4
    have d5 := K3.cell (i := 5) rfl
    have q5 := K3.frozen 5
    have g12 : f 12 = .agg #[.int .u64 xh, .int .u64 xl, .int .u64 yh, .int .u64 yl, .int .u64 zh, .int .u64 zl] := hd 12 (by decide)
    simp only [seqW, tmOf, putAll, List.map_cons, List.map_nil, List.setIfInBounds_toArray, List.set_cons_zero, List.set_cons_succ, List.length_cons, List.length_nil]
    refine wpOp_list rfl ?_
    go_wp2
    have L := Blk.put6 K3 (.int .u64 xh) (.int .u64 xl) (.int .u64 yh) (.int .u64 yl) (.int .u64 zh) (.int .u64 zl)
    have z0 := L.cell (i := 0) rfl
    have z1 := L.cell (i := 1) rfl
    have z2 := L.cell (i := 2) rfl
    have z3 := L.cell (i := 3) rfl
    have z4 := L.cell (i := 4) rfl
    have z5 := L.cell (i := 5) rfl
    exact bodyPost_ret (v := .agg #[.int .u64 xh, .int .u64 xl, .int .u64 yh, .int .u64 yl, .int .u64 zh, .int .u64 zl]) (by simp [results, Tryz.results97, go_sem, z0, z1, z2, z3, z4, z5]) rfl ⟨rfl, ((((((hb1.trans (hS.mono hb1.size)).setCell (by simp only; omega) _).setCell (by simp only; omega) _).setCell (by simp only; omega) _).setCell (by simp only; omega) _).setCell (by simp only; omega) _).setCell (by simp only; omega) _⟩

end Go.Proofs.YtimkeblcdodfmaaGreat

namespace Go.Proofs.YtimkeblcdodfmaaGreat
open Go.RowKit Go.Shelf
attribute [local go_sem] Oper.semAt_some

theorem mul_le_nat {x y : Int} {m n : Nat} (hx : x.natAbs ≤ m) (hy : y.natAbs ≤ n) : (x * y).natAbs ≤ m * n := by
  rw [Int.natAbs_mul]; exact Nat.mul_le_mul hx hy

end Go.Proofs.YtimkeblcdodfmaaGreat
