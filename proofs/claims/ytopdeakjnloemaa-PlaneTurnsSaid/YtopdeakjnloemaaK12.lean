/-
  Package plane: checks, opposites; The reference of planes: four integers in lowest terms; A region that draws its order: stores anywhere among operations whose values are known.
-/
import Derived.Test.YtopdeakjnloemaaK1
import Derived.Test.YtopdeakjnloemaaK2
import Derived.Test.YtopdeakjnloemaaK3
import Derived.Test.YtopdeakjnloemaaK4
import Derived.Test.YtopdeakjnloemaaK5
import Derived.Test.YtopdeakjnloemaaK6
import Derived.Test.YtopdeakjnloemaaK7
import Derived.Test.YtopdeakjnloemaaK8
import Derived.Test.YtopdeakjnloemaaK9
import Derived.Test.YtopdeakjnloemaaK10
import Derived.Test.YtopdeakjnloemaaK11
namespace Go.Proofs.Ytopdeakjnloemaa
open Go.RowKit Go.Shelf
attribute [local go_sem] Oper.semAt_some

theorem Blk.put4 {W : World} {B : Nat} {a b c d : Value} {t : TypeId} (h : Blk W B #[a, b, c, d] t) (a' b' c' d' : Value) : Blk ((((W.setCell ⟨B, 0, none⟩ a').setCell ⟨B, 1, none⟩ b').setCell ⟨B, 2, none⟩ c').setCell ⟨B, 3, none⟩ d') B #[a', b', c', d'] t :=
  (((h.set_eq 0 a' rfl).set_eq 1 b' rfl).set_eq 2 c' rfl).set_eq 3 d' rfl

theorem planes1 (w : World) (a b c d : Int) (t : TypeId) : RdV (w.alloc (.cells #[.int .i64 a, .int .i64 b, .int .i64 c, .int .i64 d] t)) (some ⟨w.heap.size, 0, none⟩) [⟨a, b, c, d⟩] := by
  have hB := Blk.new w #[.int .i64 a, .int .i64 b, .int .i64 c, .int .i64 d] t
  intro i y hi
  match i, hi with
  | 0, hi => cases hi; exact ⟨_, 0, rfl, hB.lt, hB.cell (i := 0) rfl, hB.cell (i := 1) rfl, hB.cell (i := 2) rfl, hB.cell (i := 3) rfl⟩
  | i + 1, hi => simp at hi

theorem checks1 (w : World) (v : Value) (r : Int) (t : TypeId) (h : ChkIs w v r) : RdC (w.alloc (.cells #[v] t)) (some ⟨w.heap.size, 0, none⟩) [r] := by
  have hB := Blk.new w #[v] t
  intro i y hi
  match i, hi with
  | 0, hi => cases hi; exact ⟨_, 0, v, rfl, hB.lt, hB.cell (i := 0) rfl, h.below ((Below.refl _ w).alloc (Nat.le_refl _) _)⟩
  | i + 1, hi => simp at hi
theorem firstE_one (r : Int) : firstE [r] = r := by unfold firstE; split <;> simp_all [firstE]

set_option maxRecDepth 100000 in
set_option maxHeartbeats 2000000 in
theorem check_any (a b c d : Int) (w : World) (ha : InI64 a) (hb : InI64 b) (hc : InI64 c) (hd : InI64 d) :
    Calls Try.prog 11 #[.agg #[.int .i64 a, .int .i64 b, .int .i64 c, .int .i64 d]] w fun e w' => e = .returned (.int .i64 (errE (decide (RightP a b c d)) 30)) ∧ Below w.heap.size w w' := by
  obtain ⟨w1, hw1⟩ : ∃ w1, w.alloc (.cells #[.int .i64 a, .int .i64 b, .int .i64 c, .int .i64 d] 23) = w1 := ⟨_, rfl⟩
  have hb1 : Below w.heap.size w w1 := by rw [← hw1]; exact (Below.refl _ w).alloc (Nat.le_refl _) _
  have k0 : Blk w1 w.heap.size #[.int .i64 a, .int .i64 b, .int .i64 c, .int .i64 d] 23 := by rw [← hw1]; exact Blk.new _ _ _
  have c0 := k0.cell (i := 0) rfl
  have c1 := k0.cell (i := 1) rfl
  have c2 := k0.cell (i := 2) rfl
  have c3 := k0.cell (i := 3) rfl
  obtain ⟨w2, hw2⟩ : ∃ w2, w1.alloc (.cells #[.int .i64 a, .int .i64 b, .int .i64 c, .int .i64 d] 23) = w2 := ⟨_, rfl⟩
  have hr2 : RdV w2 (some ⟨w1.heap.size, 0, none⟩) [⟨a, b, c, d⟩] := by rw [← hw2]; exact planes1 w1 a b c d _
  have hb2 : Below w.heap.size w w2 := by rw [← hw2]; exact hb1.alloc hb1.size _
  have hp := planes_any (some ⟨w1.heap.size, 0, none⟩) 1 1 [⟨a, b, c, d⟩] w2 rfl (by decide) hr2 (by intro q hq; rw [List.mem_singleton.1 hq]; exact ⟨ha, hb, hc, hd⟩)
  have hall : ([⟨a, b, c, d⟩] : List V4).all (fun q => decide (RightP q.a q.b q.c q.d)) = decide (RightP a b c d) := by simp
  rw [hall] at hp
  obtain ⟨r, hr⟩ : ∃ r, errE (decide (RightP a b c d)) 30 = r := ⟨_, rfl⟩
  rw [hr] at hp ⊢
  have HP := Lib.hid hp
  clear hp hall hr hr2 ha hb hc hd
  go_enter Try.func11, Try.ntmps11
  go_wp2_with fail
  refine HP.out.mono ?_
  rintro e w3 ⟨v, rfl, hv, hb3⟩
  have hb3' := hb2.trans (hb3.mono hb2.size)
  obtain ⟨g, caps, rfl, _⟩ := id hv
  obtain ⟨w4, hw4⟩ : ∃ w4, w3.alloc (.cells #[.func (.func g) #[] caps] 70) = w4 := ⟨_, rfl⟩
  have hr4 : RdC w4 (some ⟨w3.heap.size, 0, none⟩) [r] := by rw [← hw4]; exact checks1 w3 _ r _ hv
  have hb4 : Below w.heap.size w w4 := by rw [← hw4]; exact hb3'.alloc hb3'.size _
  have hf := first_any (some ⟨w3.heap.size, 0, none⟩) 1 1 [r] w4 rfl (by decide) hr4
  rw [firstE_one] at hf
  have HF := Lib.hid hf
  clear hf hr4 hv
  go_wp2_with fail
  refine HF.out.mono ?_
  rintro e w5 ⟨rfl, hb5⟩
  go_wp2_with fail
  go_ret
  exact ⟨rfl, hb4.trans (hb5.mono hb4.size)⟩

set_option maxRecDepth 100000 in
set_option maxHeartbeats 2000000 in
theorem opposite_any (a b c d : Int) (w : World) (hr : RightP a b c d) :
    Calls Try.prog 50 #[.agg #[.int .i64 a, .int .i64 b, .int .i64 c, .int .i64 d]] w fun e w' => e = .returned (.agg #[.int .i64 (-a), .int .i64 (-b), .int .i64 (-c), .int .i64 (-d)]) ∧ Below w.heap.size w w' := by
  obtain ⟨h0, h1, h2, h3, h4, h5⟩ := hr
  have e1 : wrap64 (-a) = -a := by unfold wrap64; omega
  have e2 : wrap64 (-b) = -b := by unfold wrap64; omega
  have e3 : wrap64 (-c) = -c := by unfold wrap64; omega
  have e4 : wrap64 (-d) = -d := by unfold wrap64; omega
  clear h0 h1 h2 h3 h4 h5
  go_enter Try.func50, Try.ntmps50
  go_wp2_with fail
  exact bodyPost_ret (v := .agg #[.int .i64 (-a), .int .i64 (-b), .int .i64 (-c), .int .i64 (-d)]) (by simp [results, Try.results50, go_sem]) rfl ⟨rfl, bw2 w _ _⟩

set_option maxRecDepth 100000 in
set_option maxHeartbeats 2000000 in
theorem oppositeApi_any (a b c d : Int) (w : World) (ha : InI64 a) (hb : InI64 b) (hc : InI64 c) (hd : InI64 d) :
    Calls Try.prog 14 #[.agg #[.int .i64 a, .int .i64 b, .int .i64 c, .int .i64 d]] w fun e w' => e = .returned (.tuple #[if RightP a b c d then .agg #[.int .i64 (-a), .int .i64 (-b), .int .i64 (-c), .int .i64 (-d)] else .agg #[.int .i64 0, .int .i64 0, .int .i64 0, .int .i64 0], .int .i64 (errE (decide (RightP a b c d)) 30)]) ∧ Below w.heap.size w w' := by
  obtain ⟨w1, hw1⟩ : ∃ w1, ((w.alloc (.cells #[.int .i64 a, .int .i64 b, .int .i64 c, .int .i64 d] 23)).alloc (.cells #[.int .i64 0, .int .i64 0, .int .i64 0, .int .i64 0] 23)) = w1 := ⟨_, rfl⟩
  have hb1 : Below w.heap.size w w1 := by rw [← hw1]; exact bw2 w _ _
  have k0 : Blk w1 w.heap.size #[.int .i64 a, .int .i64 b, .int .i64 c, .int .i64 d] 23 := by rw [← hw1]; exact (Blk.new w _ _).alloc _
  have k1 : Blk w1 (w.heap.size + 1) #[.int .i64 0, .int .i64 0, .int .i64 0, .int .i64 0] 23 := by rw [← hw1]; exact Blk.new' _ _ _ (by simp)
  have hch := fun W => check_any a b c d W ha hb hc hd
  have c0 := k0.cell (i := 0) rfl
  have c1 := k0.cell (i := 1) rfl
  have c2 := k0.cell (i := 2) rfl
  have c3 := k0.cell (i := 3) rfl
  by_cases hr : RightP a b c d
  · rw [if_pos hr]
    rw [decide_eq_true hr] at hch ⊢
    have HCH := Lib.hid hch
    have hin := fun W => opposite_any a b c d W hr
    have HIN := Lib.hid hin
    clear hch hin hr ha hb hc hd
    go_enter Try.func14, Try.ntmps14
    go_wp2_with fail
    refine (HCH.out _).mono ?_
    rintro e w2 ⟨rfl, hb2⟩
    rw [show errE true 30 = 0 from rfl]
    have k0 := k0.kept hb2
    have k1 := k1.kept hb2
    have hb2' := hb1.trans (hb2.mono hb1.size)
    have c0 := k0.cell (i := 0) rfl
    have c1 := k0.cell (i := 1) rfl
    have c2 := k0.cell (i := 2) rfl
    have c3 := k0.cell (i := 3) rfl
    go_wp2_with fail
    refine (HIN.out _).mono ?_
    rintro e w3 ⟨rfl, hb3⟩
    have k1 := k1.kept hb3
    have hb3' := hb2'.trans (hb3.mono hb2'.size)
    have d0 := k1.cell (i := 0) rfl
    have d1 := k1.cell (i := 1) rfl
    have d2 := k1.cell (i := 2) rfl
    have d3 := k1.cell (i := 3) rfl
    have q0 := k1.frozen 0
    have q1 := k1.frozen 1
    have q2 := k1.frozen 2
    have q3 := k1.frozen 3
    go_wp2_with fail
    have L := Blk.put4 k1 (.int .i64 (-a)) (.int .i64 (-b)) (.int .i64 (-c)) (.int .i64 (-d))
    have z0 := L.cell (i := 0) rfl
    have z1 := L.cell (i := 1) rfl
    have z2 := L.cell (i := 2) rfl
    have z3 := L.cell (i := 3) rfl
    exact bodyPost_ret (v := .tuple #[.agg #[.int .i64 (-a), .int .i64 (-b), .int .i64 (-c), .int .i64 (-d)], .int .i64 0]) (by simp [results, Try.results14, go_sem, z0, z1, z2, z3]) rfl ⟨rfl, (((hb3'.setCell (by simp only; omega) _).setCell (by simp only; omega) _).setCell (by simp only; omega) _).setCell (by simp only; omega) _⟩
  · rw [if_neg hr]
    rw [decide_eq_false hr] at hch ⊢
    have HCH := Lib.hid hch
    clear hch hr ha hb hc hd
    go_enter Try.func14, Try.ntmps14
    go_wp2_with fail
    refine (HCH.out _).mono ?_
    rintro e w2 ⟨rfl, hb2⟩
    rw [show errE false 30 = 30 from rfl]
    have k1 := k1.kept hb2
    have hb2' := hb1.trans (hb2.mono hb1.size)
    have d0 := k1.cell (i := 0) rfl
    have d1 := k1.cell (i := 1) rfl
    have d2 := k1.cell (i := 2) rfl
    have d3 := k1.cell (i := 3) rfl
    have q0 := k1.frozen 0
    have q1 := k1.frozen 1
    have q2 := k1.frozen 2
    have q3 := k1.frozen 3
    go_wp2_with fail
    have L := Blk.put4 k1 (.int .i64 0) (.int .i64 0) (.int .i64 0) (.int .i64 0)
    have z0 := L.cell (i := 0) rfl
    have z1 := L.cell (i := 1) rfl
    have z2 := L.cell (i := 2) rfl
    have z3 := L.cell (i := 3) rfl
    exact bodyPost_ret (v := .tuple #[.agg #[.int .i64 0, .int .i64 0, .int .i64 0, .int .i64 0], .int .i64 30]) (by simp [results, Try.results14, go_sem, z0, z1, z2, z3]) rfl ⟨rfl, (((hb2'.setCell (by simp only; omega) _).setCell (by simp only; omega) _).setCell (by simp only; omega) _).setCell (by simp only; omega) _⟩

end Go.Proofs.Ytopdeakjnloemaa

namespace Go.Proofs.Ytopdeakjnloemaa
open Go.RowKit Go.Shelf
attribute [local go_sem] Oper.semAt_some run_field1 run_field0

/-- An integer of the reference. -/
def IsN (w : World) (v : Value) (z : Int) : Prop := ∃ neg p n c xs, v = .agg #[.bool neg, .slice p n c] ∧ RIs w neg p n c xs z ∧ n ≤ 100000
theorem IsN.below {w w' : World} {v : Value} {z : Int} (h : IsN w v z) (hb : Below w.heap.size w w') : IsN w' v z := by
  obtain ⟨neg, p, n, c, xs, e, hr, hn⟩ := h; exact ⟨neg, p, n, c, xs, e, hr.below hb, hn⟩

def IsQ (w : World) (v : Value) (z : Int) : Prop := ∃ neg p n c xs, v = .agg #[.bool neg, .slice p n c] ∧ RIs w neg p n c xs z
def IsS (v : Value) : Prop := ∃ neg p n c, v = .agg #[.bool neg, .slice p n c]
def IsD (w : World) (v : Value) (x y : Int) : Prop := ∃ a1 p1 n1 c1 xs1 a2 p2 n2 c2 xs2, v = .tuple #[.agg #[.bool a1, .slice p1 n1 c1], .agg #[.bool a2, .slice p2 n2 c2]] ∧ RIs w a1 p1 n1 c1 xs1 x ∧ RIs w a2 p2 n2 c2 xs2 y

theorem num8_at {W : World} {B : Nat} {a : Nat → Bool} {p : Nat → Option Addr} {n c : Nat → Nat} {t : TypeId} (h : Blk W B #[.bool (a 0), .slice (p 0) (n 0) (c 0), .bool (a 1), .slice (p 1) (n 1) (c 1), .bool (a 2), .slice (p 2) (n 2) (c 2), .bool (a 3), .slice (p 3) (n 3) (c 3)] t) {i : Nat} (hi : i < 4) : W.cell? ⟨B, i * 2, none⟩ = some (.bool (a i)) ∧ W.cell? ⟨B, i * 2 + 1, none⟩ = some (.slice (p i) (n i) (c i)) := by
  have h4 : i = 0 ∨ i = 1 ∨ i = 2 ∨ i = 3 := by omega
  rcases h4 with rfl | rfl | rfl | rfl <;> exact ⟨h.cell rfl, h.cell rfl⟩
theorem int4_set {r : Nat → Int} {i : Nat} (hi : i < 4) (v : Int) : (#[.int .i64 (r 0), .int .i64 (r 1), .int .i64 (r 2), .int .i64 (r 3)] : Array Value).setIfInBounds i (.int .i64 v) = #[.int .i64 (if 0 = i then v else r 0), .int .i64 (if 1 = i then v else r 1), .int .i64 (if 2 = i then v else r 2), .int .i64 (if 3 = i then v else r 3)] := by
  have h4 : i = 0 ∨ i = 1 ∨ i = 2 ∨ i = 3 := by omega
  rcases h4 with rfl | rfl | rfl | rfl <;> rfl
theorem int4_at {W : World} {B : Nat} {r : Nat → Int} {t : TypeId} (h : Blk W B #[.int .i64 (r 0), .int .i64 (r 1), .int .i64 (r 2), .int .i64 (r 3)] t) {i : Nat} (hi : i < 4) : W.cell? ⟨B, i, none⟩ = some (.int .i64 (r i)) := by
  have h4 : i = 0 ∨ i = 1 ∨ i = 2 ∨ i = 3 := by omega
  rcases h4 with rfl | rfl | rfl | rfl <;> exact h.cell rfl

theorem RIs.setZ {W : World} {neg : Bool} {p : Option Addr} {n c : Nat} {xs : List Nat} {z : Int} (h : RIs W neg p n c xs z) {b : Nat} {T : TypeId} (hB : Blk W b #[.bool false, .slice none 0 0] T) (v0 v1 : Value) : RIs ((W.setCell ⟨b, 0, none⟩ v0).setCell ⟨b, 1, none⟩ v1) neg p n c xs z := by
  refine (h.setAt (hB.cell (i := 0) rfl) (by intro x e; cases e) v0).setAt ((hB.set_eq 0 v0 rfl).cell (i := 1) rfl) (by intro x e; cases e) v1

def lowZ (z : Nat → Int) (i : Nat) : Int := low4 (z 0) (z 1) (z 2) (z 3) (z i)
def okL (z : Nat → Int) : Bool := inI64 (lowZ z 0) && (inI64 (lowZ z 1) && (inI64 (lowZ z 2) && inI64 (lowZ z 3)))
theorem okL_true {z : Nat → Int} (h : ∀ j, j < 4 → inI64 (lowZ z j) = true) : okL z = true := by
  unfold okL; rw [h 0 (by decide), h 1 (by decide), h 2 (by decide), h 3 (by decide)]; rfl
theorem okL_false {z : Nat → Int} {i : Nat} (hi : i < 4) (h : inI64 (lowZ z i) = false) : okL z = false := by
  have h4 : i = 0 ∨ i = 1 ∨ i = 2 ∨ i = 3 := by omega
  unfold okL
  rcases h4 with rfl | rfl | rfl | rfl <;> simp [h]

set_option maxRecDepth 100000 in
set_option maxHeartbeats 8000000 in
theorem reduced_any (a : Nat → Bool) (p : Nat → Option Addr) (n c : Nat → Nat) (xs : Nat → List Nat) (z : Nat → Int) (w : World) (hz : ∀ i, i < 4 → RIs w (a i) (p i) (n i) (c i) (xs i) (z i)) (hn : ∀ i, i < 4 → n i ≤ 100000) (h0 : ¬ (z 0 = 0 ∧ z 1 = 0 ∧ z 2 = 0)) :
    Calls Try.prog 48 #[.agg #[.bool (a 0), .slice (p 0) (n 0) (c 0), .bool (a 1), .slice (p 1) (n 1) (c 1), .bool (a 2), .slice (p 2) (n 2) (c 2), .bool (a 3), .slice (p 3) (n 3) (c 3)]] w fun e w' => ∃ q : V4, e = .returned (.tuple #[.agg #[.int .i64 q.a, .int .i64 q.b, .int .i64 q.c, .int .i64 q.d], .bool (okL z)]) ∧ (okL z = true → q = ⟨lowZ z 0, lowZ z 1, lowZ z 2, lowZ z 3⟩) ∧ Below w.heap.size w w' := by
  obtain ⟨w1, hw1⟩ : ∃ w1, ((w.alloc (.cells #[.bool (a 0), .slice (p 0) (n 0) (c 0), .bool (a 1), .slice (p 1) (n 1) (c 1), .bool (a 2), .slice (p 2) (n 2) (c 2), .bool (a 3), .slice (p 3) (n 3) (c 3)] 84)).alloc (.cells #[.int .i64 0, .int .i64 0, .int .i64 0, .int .i64 0] 22)) = w1 := ⟨_, rfl⟩
  have hb1 : Below w.heap.size w w1 := by rw [← hw1]; exact bw2 w _ _
  have k0 : Blk w1 w.heap.size #[.bool (a 0), .slice (p 0) (n 0) (c 0), .bool (a 1), .slice (p 1) (n 1) (c 1), .bool (a 2), .slice (p 2) (n 2) (c 2), .bool (a 3), .slice (p 3) (n 3) (c 3)] 84 := by rw [← hw1]; exact (Blk.new w _ _).alloc _
  have kR : Blk w1 (w.heap.size + 1) #[.int .i64 0, .int .i64 0, .int .i64 0, .int .i64 0] 22 := by rw [← hw1]; exact Blk.new' _ _ _ (by simp)
  obtain ⟨G, hG⟩ : ∃ G, g4 (z 0) (z 1) (z 2) (z 3) = G := ⟨_, rfl⟩
  have hgg : Int.gcd ((Int.gcd (z 0) (z 1) : Nat) : Int) ((Int.gcd (z 2) (z 3) : Nat) : Int) = G := hG
  have hG0 : (G : Int) ≠ 0 := by have := g4_pos (d := z 3) h0; omega
  have hlow : ∀ i, lowZ z i = z i / (G : Int) := fun i => by unfold lowZ low4; rw [hG]
  obtain ⟨ok, hok⟩ : ∃ ok, okL z = ok := ⟨_, rfl⟩
  have hT : (∀ j, j < 4 → inI64 (z j / (G : Int)) = true) → ok = true := fun h => by rw [← hok]; exact okL_true (fun j hj => by rw [hlow]; exact h j hj)
  have hF : ∀ i, i < 4 → inI64 (z i / (G : Int)) = false → ok = false := fun i hi h => by rw [← hok]; exact okL_false hi (by rw [hlow]; exact h)
  rw [hok, hlow, hlow, hlow, hlow]
  have HN := Lib.hid hn
  have HZ := Lib.hid hz
  have HG := Lib.hid hgg
  have HG0 := Lib.hid hG0
  have HT := Lib.hid hT
  have HF := Lib.hid hF
  clear hn hz hgg hG0 hT hF hok hlow hG h0
  go_enter Try.func48, Try.ntmps48
  go_upto_region 1 with fail
  go_cut [4] from 11 to 21 (fun v4 wx => ∃ b gn gp gl gc gx, v4 = .pointer (some ⟨b, 0, none⟩) ∧ w1.heap.size ≤ b ∧ Blk wx b #[.bool gn, .slice gp gl gc] 82 ∧ RIs wx gn gp gl gc gx (G : Int) ∧ gl ≤ 100000 ∧ Below w1.heap.size w1 wx)
  case first =>
    refine wp_region_kn 12 (fun ix => ix != 4 && ix != 9 && ix != 10 && ix != 11) (fun ix => match ix with | 0 => .pointer (some ⟨w.heap.size, 0, none⟩) | 1 => .agg #[.bool (a 0), .slice (p 0) (n 0) (c 0)] | 2 => .pointer (some ⟨w.heap.size, 2, none⟩) | 3 => .agg #[.bool (a 1), .slice (p 1) (n 1) (c 1)] | 5 => .pointer (some ⟨w.heap.size, 4, none⟩) | 6 => .agg #[.bool (a 2), .slice (p 2) (n 2) (c 2)] | 7 => .pointer (some ⟨w.heap.size, 6, none⟩) | _ => .agg #[.bool (a 3), .slice (p 3) (n 3) (c 3)]) (fun ix v w => match ix with | 4 => IsN w v ((Int.gcd (z 0) (z 1) : Nat) : Int) | 9 => IsN w v ((Int.gcd (z 2) (z 3) : Nat) : Int) | 10 => IsN w v (G : Int) | _ => ∃ b, v = .pointer (some ⟨b, 0, none⟩) ∧ w1.heap.size ≤ b ∧ Blk w b #[.bool false, .slice none 0 0] 82) (by kernel_rfl) (by kernel_rfl) (by kernel_rfl) (by decide) ?_ ?_ ?_
    · intro ix v w8 w9 hb9 h
      have hd : (∃ b, v = .pointer (some ⟨b, 0, none⟩) ∧ w1.heap.size ≤ b ∧ Blk w8 b #[.bool false, .slice none 0 0] 82) → ∃ b, v = .pointer (some ⟨b, 0, none⟩) ∧ w1.heap.size ≤ b ∧ Blk w9 b #[.bool false, .slice none 0 0] 82 := fun ⟨b, e, h1, h2⟩ => ⟨b, e, h1, h2.kept hb9⟩
      by_cases i4 : ix = 4
      · subst i4; exact IsN.below h hb9
      · by_cases i9 : ix = 9
        · subst i9; exact IsN.below h hb9
        · by_cases i10 : ix = 10
          · subst i10; exact IsN.below h hb9
          · rcases ix with _ | _ | _ | _ | _ | _ | _ | _ | _ | _ | _ | ix
            all_goals first
              | exact hd h
              | (exfalso; omega)
    · rintro ix hx f ww hS hd
      have ka := k0.kept hS
      have e0_ := ka.cell (i := 0) rfl
      have e1_ := ka.cell (i := 1) rfl
      have e2_ := ka.cell (i := 2) rfl
      have e3_ := ka.cell (i := 3) rfl
      have e4_ := ka.cell (i := 4) rfl
      have e5_ := ka.cell (i := 5) rfl
      have e6_ := ka.cell (i := 6) rfl
      have e7_ := ka.cell (i := 7) rfl
      have hbw := hb1.trans (hS.mono hb1.size)
      rcases ix with _ | _ | _ | _ | _ | _ | _ | _ | _ | _ | _ | _ | ix
      · refine wpOp_list rfl ?_
        simp only [tmOf, putAll, List.map_cons, List.map_nil, List.setIfInBounds_toArray, List.set_cons_zero, List.set_cons_succ]
        go_wp2
        refine ⟨.pointer (some ⟨w.heap.size, 0, none⟩), ?_⟩
        simp [upd, Below.refl]
      · have g0 : f 0 = .pointer (some ⟨w.heap.size, 0, none⟩) := hd 0 (by kernel_rfl)
        refine wpOp_list rfl ?_
        simp only [tmOf, putAll, List.map_cons, List.map_nil, List.setIfInBounds_toArray, List.set_cons_zero, List.set_cons_succ]
        go_wp2
        refine ⟨.agg #[.bool (a 0), .slice (p 0) (n 0) (c 0)], ?_⟩
        simp [upd, g0, Below.refl]
      · refine wpOp_list rfl ?_
        simp only [tmOf, putAll, List.map_cons, List.map_nil, List.setIfInBounds_toArray, List.set_cons_zero, List.set_cons_succ]
        go_wp2
        refine ⟨.pointer (some ⟨w.heap.size, 2, none⟩), ?_⟩
        simp [upd, Below.refl]
      · have g2 : f 2 = .pointer (some ⟨w.heap.size, 2, none⟩) := hd 2 (by kernel_rfl)
        refine wpOp_list rfl ?_
        simp only [tmOf, putAll, List.map_cons, List.map_nil, List.setIfInBounds_toArray, List.set_cons_zero, List.set_cons_succ]
        go_wp2
        refine ⟨.agg #[.bool (a 1), .slice (p 1) (n 1) (c 1)], ?_⟩
        simp [upd, g2, Below.refl]
      · have g1 : f 1 = .agg #[.bool (a 0), .slice (p 0) (n 0) (c 0)] := hd 1 (by kernel_rfl)
        have g3 : f 3 = .agg #[.bool (a 1), .slice (p 1) (n 1) (c 1)] := hd 3 (by kernel_rfl)
        refine wpOp_list rfl ?_
        simp only [tmOf, putAll, List.map_cons, List.map_nil, List.setIfInBounds_toArray, List.set_cons_zero, List.set_cons_succ]
        go_wp2_with fail
        refine (rgcd_any _ _ _ _ _ _ _ _ (xs 0) (xs 1) _ _ _ (HN.out 0 (by decide)) (HN.out 1 (by decide)) ((HZ.out 0 (by decide)).below hbw) ((HZ.out 1 (by decide)).below hbw)).mono ?_
        rintro e' wf ⟨nf, pf, lf, cf, xf, rfl, hzf, hnf, hbf⟩
        go_wp2_with fail
        first
          | exact ⟨.agg #[.bool nf, .slice pf lf cf], by simp [upd, g1, g3], ⟨nf, pf, lf, cf, xf, rfl, hzf, hnf⟩, hbf⟩
          | exact ⟨.agg #[.bool nf, .slice pf lf cf], by simp [upd, g1, g3], ⟨nf, pf, lf, cf, xf, rfl, hzf, hnf⟩⟩
      · refine wpOp_list rfl ?_
        simp only [tmOf, putAll, List.map_cons, List.map_nil, List.setIfInBounds_toArray, List.set_cons_zero, List.set_cons_succ]
        go_wp2
        refine ⟨.pointer (some ⟨w.heap.size, 4, none⟩), ?_⟩
        simp [upd, Below.refl]
      · have g5 : f 5 = .pointer (some ⟨w.heap.size, 4, none⟩) := hd 5 (by kernel_rfl)
        refine wpOp_list rfl ?_
        simp only [tmOf, putAll, List.map_cons, List.map_nil, List.setIfInBounds_toArray, List.set_cons_zero, List.set_cons_succ]
        go_wp2
        refine ⟨.agg #[.bool (a 2), .slice (p 2) (n 2) (c 2)], ?_⟩
        simp [upd, g5, Below.refl]
      · refine wpOp_list rfl ?_
        simp only [tmOf, putAll, List.map_cons, List.map_nil, List.setIfInBounds_toArray, List.set_cons_zero, List.set_cons_succ]
        go_wp2
        refine ⟨.pointer (some ⟨w.heap.size, 6, none⟩), ?_⟩
        simp [upd, Below.refl]
      · have g7 : f 7 = .pointer (some ⟨w.heap.size, 6, none⟩) := hd 7 (by kernel_rfl)
        refine wpOp_list rfl ?_
        simp only [tmOf, putAll, List.map_cons, List.map_nil, List.setIfInBounds_toArray, List.set_cons_zero, List.set_cons_succ]
        go_wp2
        refine ⟨.agg #[.bool (a 3), .slice (p 3) (n 3) (c 3)], ?_⟩
        simp [upd, g7, Below.refl]
      · have g6 : f 6 = .agg #[.bool (a 2), .slice (p 2) (n 2) (c 2)] := hd 6 (by kernel_rfl)
        have g8 : f 8 = .agg #[.bool (a 3), .slice (p 3) (n 3) (c 3)] := hd 8 (by kernel_rfl)
        refine wpOp_list rfl ?_
        simp only [tmOf, putAll, List.map_cons, List.map_nil, List.setIfInBounds_toArray, List.set_cons_zero, List.set_cons_succ]
        go_wp2_with fail
        refine (rgcd_any _ _ _ _ _ _ _ _ (xs 2) (xs 3) _ _ _ (HN.out 2 (by decide)) (HN.out 3 (by decide)) ((HZ.out 2 (by decide)).below hbw) ((HZ.out 3 (by decide)).below hbw)).mono ?_
        rintro e' wf ⟨nf, pf, lf, cf, xf, rfl, hzf, hnf, hbf⟩
        go_wp2_with fail
        first
          | exact ⟨.agg #[.bool nf, .slice pf lf cf], by simp [upd, g6, g8], ⟨nf, pf, lf, cf, xf, rfl, hzf, hnf⟩, hbf⟩
          | exact ⟨.agg #[.bool nf, .slice pf lf cf], by simp [upd, g6, g8], ⟨nf, pf, lf, cf, xf, rfl, hzf, hnf⟩⟩
      · obtain ⟨na, pa, la, ca, xa, g4, hza, hna⟩ : IsN ww (f 4) ((Int.gcd (z 0) (z 1) : Nat) : Int) := hd 4 (by kernel_rfl)
        obtain ⟨nb, pb, lb, cb, xb, g9, hzb, hnb⟩ : IsN ww (f 9) ((Int.gcd (z 2) (z 3) : Nat) : Int) := hd 9 (by kernel_rfl)
        refine wpOp_list rfl ?_
        simp only [tmOf, putAll, List.map_cons, List.map_nil, List.setIfInBounds_toArray, List.set_cons_zero, List.set_cons_succ]
        have hgg := rgcd_any _ _ _ _ _ _ _ _ xa xb _ _ ww hna hnb hza hzb
        rw [HG.out] at hgg
        have HGG := Lib.hid hgg
        clear hgg
        go_wp2_with fail
        refine (HGG.out).mono ?_
        rintro e' wf ⟨nf, pf, lf, cf, xf, rfl, hzf, hnf, hbf⟩
        go_wp2_with fail
        first
          | exact ⟨.agg #[.bool nf, .slice pf lf cf], by simp [upd, g4, g9], ⟨nf, pf, lf, cf, xf, rfl, hzf, hnf⟩, hbf⟩
          | exact ⟨.agg #[.bool nf, .slice pf lf cf], by simp [upd, g4, g9], ⟨nf, pf, lf, cf, xf, rfl, hzf, hnf⟩⟩
      · refine wpOp_list rfl ?_
        simp only [tmOf, putAll, List.map_cons, List.map_nil, List.setIfInBounds_toArray, List.set_cons_zero, List.set_cons_succ]
        go_wp2
        exact ⟨.pointer (some ⟨ww.heap.size, 0, none⟩), by simp [upd], ⟨_, rfl, hS.size, Blk.new _ _ _⟩, (Below.refl _ ww).alloc (Nat.le_refl _) _⟩
      · omega
    · rintro f ww hS hd
      obtain ⟨nc, pc, lc, cc, xc, g10, hzc, hnc⟩ : IsN ww (f 10) (G : Int) := hd 10 (by decide)
      obtain ⟨b4, g11, hb4, hk4⟩ : ∃ b, f 11 = .pointer (some ⟨b, 0, none⟩) ∧ w1.heap.size ≤ b ∧ Blk ww b #[.bool false, .slice none 0 0] 82 := hd 11 (by decide)
      have d0 := hk4.cell (i := 0) rfl
      have d1 := hk4.cell (i := 1) rfl
      have q0 := hk4.frozen 0
      have q1 := hk4.frozen 1
      simp only [seqW, tmOf, putAll, List.map_cons, List.map_nil, List.setIfInBounds_toArray, List.set_cons_zero, List.set_cons_succ, List.length_cons, List.length_nil]
      refine wpOp_list rfl ?_
      go_wp2
      go_meet
      case rel => exact ⟨b4, nc, pc, lc, cc, xc, rfl, hb4, (hk4.set_eq 0 (.bool nc) rfl).set_eq 1 (.slice pc lc cc) rfl, hzc.setBox hk4 nc (.slice pc lc cc), hnc, (hS.setCell (p := ⟨b4, 0, none⟩) hb4 _).setCell (p := ⟨b4, 1, none⟩) hb4 _⟩
  case rest =>
  obtain ⟨b, gn, gp, gl, gc, gx, rfl, hbN, kb, hgn, hgl, hb2⟩ := hcut
  have k0 := k0.kept hb2
  have kR := kR.kept hb2
  have hbW := hb1.trans (hb2.mono hb1.size)
  have HGN := Lib.hid hgn
  clear hgn hb1 hb2 hw1
  have hN1 : w.heap.size + 1 < wc.heap.size := kR.lt
  have hbL : b < wc.heap.size := kb.lt
  obtain ⟨w3, hw3⟩ : ∃ w3, wc.alloc (.cells #[.int .i64 0, .int .i64 0, .int .i64 0, .int .i64 0] 22) = w3 := ⟨_, rfl⟩
  have hb3 : Below wc.heap.size wc w3 := by rw [← hw3]; exact (Below.refl _ _).alloc (Nat.le_refl _) _
  have kO : Blk w3 wc.heap.size #[.int .i64 0, .int .i64 0, .int .i64 0, .int .i64 0] 22 := by rw [← hw3]; exact Blk.new _ _ _
  go_wp2_with fail
  go_loopg [6] 4 (fun gk v6 wr => ∃ (i : Nat) (r : Nat → Int), i ≤ 4 ∧ gk = 4 - i ∧ v6 = .int .i64 (i : Int) ∧ Hid (∀ j, j < i → inI64 (z j / (G : Int)) = true ∧ r j = z j / (G : Int)) ∧ Blk wr wc.heap.size #[.int .i64 (r 0), .int .i64 (r 1), .int .i64 (r 2), .int .i64 (r 3)] 22 ∧ Below wc.heap.size wc wr)
  case atStart => exact ⟨0, fun _ => 0, by decide, rfl, rfl, fun j hj => absurd hj (by omega), kO, hb3⟩
  case round =>
    obtain ⟨i, r, hi, hgk, rfl, HI, kO, hbx⟩ := hrel
    have HGK := Lib.hid hgk
    clear hgk hb3 hw3
    by_cases hlt : i < 4
    · have hlti : (i : Int) < 4 := by omega
      go_upto_region 6 with fail
      go_cut [7, 8] from 26 to 33 (fun v7 v8 wx => ∃ b7 b8 a1 p1 n1 c1 xs1, v7 = .pointer (some ⟨b7, 0, none⟩) ∧ v8 = .pointer (some ⟨b8, 0, none⟩) ∧ Blk wx b7 #[.bool a1, .slice p1 n1 c1] 82 ∧ RIs wx a1 p1 n1 c1 xs1 (z i / (G : Int)) ∧ Below wr.heap.size wr wx)
      case first =>
        refine wp_region_def2R 8 6 7 (fun ix v u => match ix with | 0 => v = .int .i64 (i : Int) | 1 => v = .pointer (some ⟨w.heap.size, i * 2, none⟩) | 2 => v = .agg #[.bool (a i), .slice (p i) (n i) (c i)] | 3 => v = .agg #[.bool gn, .slice gp gl gc] | 4 => IsD u v (z i / (G : Int)) (z i % (G : Int)) | 5 => IsD u v (z i / (G : Int)) (z i % (G : Int)) | 6 => IsQ u v (z i / (G : Int)) | _ => IsS v) #[.bool false, .slice none 0 0] 82 (by kernel_rfl) (by kernel_rfl) rfl (by decide) (by decide) (by kernel_rfl) (by kernel_rfl) ?_ ?_ (by kernel_rfl) (by kernel_rfl) ?_ ?_ ?_ ?_ ?_
        · intro ix v w8 w9 hb9 h
          rcases ix with _ | _ | _ | _ | _ | _ | _ | ix
          · exact h
          · exact h
          · exact h
          · exact h
          · obtain ⟨a1, p1, n1, c1, xs1, a2, p2, n2, c2, xs2, e, h1, h2⟩ := h; exact ⟨a1, p1, n1, c1, xs1, a2, p2, n2, c2, xs2, e, h1.below hb9, h2.below hb9⟩
          · obtain ⟨a1, p1, n1, c1, xs1, a2, p2, n2, c2, xs2, e, h1, h2⟩ := h; exact ⟨a1, p1, n1, c1, xs1, a2, p2, n2, c2, xs2, e, h1.below hb9, h2.below hb9⟩
          · obtain ⟨a1, p1, n1, c1, xs1, e, h1⟩ := h; exact ⟨a1, p1, n1, c1, xs1, e, h1.below hb9⟩
          · exact h
        · intro ix v w8 b' v0 v1 hB h
          rcases ix with _ | _ | _ | _ | _ | _ | _ | ix
          · exact h
          · exact h
          · exact h
          · exact h
          · obtain ⟨a1, p1, n1, c1, xs1, a2, p2, n2, c2, xs2, e, h1, h2⟩ := h; exact ⟨a1, p1, n1, c1, xs1, a2, p2, n2, c2, xs2, e, h1.setZ hB v0 v1, h2.setZ hB v0 v1⟩
          · obtain ⟨a1, p1, n1, c1, xs1, a2, p2, n2, c2, xs2, e, h1, h2⟩ := h; exact ⟨a1, p1, n1, c1, xs1, a2, p2, n2, c2, xs2, e, h1.setZ hB v0 v1, h2.setZ hB v0 v1⟩
          · obtain ⟨a1, p1, n1, c1, xs1, e, h1⟩ := h; exact ⟨a1, p1, n1, c1, xs1, e, h1.setZ hB v0 v1⟩
          · exact h
        · rintro ix hx f ww hS hd
          have hbw := hbx.trans (hS.mono hbx.size)
          have ka := k0.kept hbw
          obtain ⟨e0_, e1_⟩ := num8_at ka hlt
          have kg_ := kb.kept hbw
          have e2_ := kg_.cell (i := 0) rfl
          have e3_ := kg_.cell (i := 1) rfl
          rcases ix with _ | _ | _ | _ | _ | _ | _ | _ | ix
          · refine wpOp_list rfl ?_
            simp only [tmOf, putAll, List.map_cons, List.map_nil, List.setIfInBounds_toArray, List.set_cons_zero, List.set_cons_succ]
            go_wp2
            refine ⟨.int .i64 (i : Int), ?_⟩
            simp [upd, Below.refl]
          · have g0 : f 0 = .int .i64 (i : Int) := hd 0 (by decide) (by kernel_rfl)
            refine wpOp_list rfl ?_
            simp only [tmOf, putAll, List.map_cons, List.map_nil, List.setIfInBounds_toArray, List.set_cons_zero, List.set_cons_succ]
            go_wp2
            refine ⟨.pointer (some ⟨w.heap.size, i * 2, none⟩), ?_⟩
            simp [upd, g0, Below.refl]
          · have g1 : f 1 = .pointer (some ⟨w.heap.size, i * 2, none⟩) := hd 1 (by decide) (by kernel_rfl)
            refine wpOp_list rfl ?_
            simp only [tmOf, putAll, List.map_cons, List.map_nil, List.setIfInBounds_toArray, List.set_cons_zero, List.set_cons_succ]
            go_wp2
            refine ⟨.agg #[.bool (a i), .slice (p i) (n i) (c i)], ?_⟩
            simp [upd, g1, Below.refl]
          · refine wpOp_list rfl ?_
            simp only [tmOf, putAll, List.map_cons, List.map_nil, List.setIfInBounds_toArray, List.set_cons_zero, List.set_cons_succ]
            go_wp2
            refine ⟨.agg #[.bool gn, .slice gp gl gc], ?_⟩
            simp [upd, Below.refl]
          · have g2 : f 2 = .agg #[.bool (a i), .slice (p i) (n i) (c i)] := hd 2 (by decide) (by kernel_rfl)
            have g3 : f 3 = .agg #[.bool gn, .slice gp gl gc] := hd 3 (by decide) (by kernel_rfl)
            refine wpOp_list rfl ?_
            simp only [tmOf, putAll, List.map_cons, List.map_nil, List.setIfInBounds_toArray, List.set_cons_zero, List.set_cons_succ]
            go_wp2_with fail
            refine (rdiv_any _ _ _ _ _ _ _ _ (xs i) gx _ _ _ (HN.out i hlt) hgl ((HZ.out i hlt).below (hbW.trans (hbw.mono hbW.size))) (HGN.out.below hbw) HG0.out).mono ?_
            rintro e' wf ⟨a1, p1, n1, c1, xs1, a2, p2, n2, c2, xs2, rfl, hq1, hq2, hbf⟩
            go_wp2_with fail
            first
              | exact ⟨_, by simp [upd, g2, g3]; rfl, ⟨a1, p1, n1, c1, xs1, a2, p2, n2, c2, xs2, rfl, hq1, hq2⟩, hbf⟩
              | exact ⟨.tuple #[.agg #[.bool a1, .slice p1 n1 c1], .agg #[.bool a2, .slice p2 n2 c2]], by simp [upd, g2, g3], ⟨a1, p1, n1, c1, xs1, a2, p2, n2, c2, xs2, rfl, hq1, hq2⟩⟩
              | exact ⟨.tuple #[.agg #[.bool a1, .slice p1 n1 c1], .agg #[.bool a2, .slice p2 n2 c2]], by simp [upd, g2, g3], ⟨a1, p1, n1, c1, xs1, a2, p2, n2, c2, xs2, rfl, hq1, hq2⟩, hbf⟩
          · obtain ⟨a1, p1, n1, c1, xs1, a2, p2, n2, c2, xs2, g4, hq1, hq2⟩ : ∃ a1 p1 n1 c1 xs1 a2 p2 n2 c2 xs2, f 4 = .tuple #[.agg #[.bool a1, .slice p1 n1 c1], .agg #[.bool a2, .slice p2 n2 c2]] ∧ RIs ww a1 p1 n1 c1 xs1 (z i / (G : Int)) ∧ RIs ww a2 p2 n2 c2 xs2 (z i % (G : Int)) := hd 4 (by decide) (by kernel_rfl)
            refine wpOp_list rfl ?_
            simp only [tmOf, putAll, List.map_cons, List.map_nil, List.setIfInBounds_toArray, List.set_cons_zero, List.set_cons_succ]
            go_wp2
            exact ⟨.tuple #[.agg #[.bool a1, .slice p1 n1 c1], .agg #[.bool a2, .slice p2 n2 c2]], by simp [upd, g4], ⟨a1, p1, n1, c1, xs1, a2, p2, n2, c2, xs2, rfl, hq1, hq2⟩, Below.refl _ _⟩
          · obtain ⟨a1, p1, n1, c1, xs1, a2, p2, n2, c2, xs2, g5, hq1, hq2⟩ : ∃ a1 p1 n1 c1 xs1 a2 p2 n2 c2 xs2, f 5 = .tuple #[.agg #[.bool a1, .slice p1 n1 c1], .agg #[.bool a2, .slice p2 n2 c2]] ∧ RIs ww a1 p1 n1 c1 xs1 (z i / (G : Int)) ∧ RIs ww a2 p2 n2 c2 xs2 (z i % (G : Int)) := hd 5 (by decide) (by kernel_rfl)
            refine wpOp_list rfl ?_
            simp only [tmOf, putAll, List.map_cons, List.map_nil, List.setIfInBounds_toArray, List.set_cons_zero, List.set_cons_succ]
            go_wp2
            exact ⟨.agg #[.bool a1, .slice p1 n1 c1], by simp [upd, g5], ⟨a1, p1, n1, c1, xs1, rfl, hq1⟩, Below.refl _ _⟩
          · obtain ⟨a1, p1, n1, c1, xs1, a2, p2, n2, c2, xs2, g5, hq1, hq2⟩ : ∃ a1 p1 n1 c1 xs1 a2 p2 n2 c2 xs2, f 5 = .tuple #[.agg #[.bool a1, .slice p1 n1 c1], .agg #[.bool a2, .slice p2 n2 c2]] ∧ RIs ww a1 p1 n1 c1 xs1 (z i / (G : Int)) ∧ RIs ww a2 p2 n2 c2 xs2 (z i % (G : Int)) := hd 5 (by decide) (by kernel_rfl)
            refine wpOp_list rfl ?_
            simp only [tmOf, putAll, List.map_cons, List.map_nil, List.setIfInBounds_toArray, List.set_cons_zero, List.set_cons_succ]
            go_wp2
            exact ⟨.agg #[.bool a2, .slice p2 n2 c2], by simp [upd, g5], ⟨a2, p2, n2, c2, rfl⟩, Below.refl _ _⟩
          · omega
        · rintro ix (rfl | rfl) f ww
          · refine wpOp_list rfl ?_
            simp only [tmOf, putAll, List.map_cons, List.map_nil, List.setIfInBounds_toArray, List.set_cons_zero, List.set_cons_succ]
            go_wp2
            simp [upd]
          · refine wpOp_list rfl ?_
            simp only [tmOf, putAll, List.map_cons, List.map_nil, List.setIfInBounds_toArray, List.set_cons_zero, List.set_cons_succ]
            go_wp2
            simp [upd]
        · rintro f ww b0 hd hf hB
          obtain ⟨a1, p1, n1, c1, xs1, g6, hq1⟩ : ∃ a1 p1 n1 c1 xs1, f 6 = .agg #[.bool a1, .slice p1 n1 c1] ∧ RIs ww a1 p1 n1 c1 xs1 (z i / (G : Int)) := hd 6 (by decide) (by kernel_rfl)
          have e0 := hB.cell (i := 0) rfl
          have e1 := hB.cell (i := 1) rfl
          have e2 := hB.frozen 0
          have e3 := hB.frozen 1
          rw [g6]
          refine wpOp_list rfl ?_
          simp only [tmOf, putAll, List.map_cons, List.map_nil, List.setIfInBounds_toArray, List.set_cons_zero, List.set_cons_succ]
          go_wp2
        · rintro f ww b0 hd hf hB
          obtain ⟨a1, p1, n1, c1, g7⟩ : ∃ a1 p1 n1 c1, f 7 = .agg #[.bool a1, .slice p1 n1 c1] := hd 7 (by decide) (by kernel_rfl)
          have e0 := hB.cell (i := 0) rfl
          have e1 := hB.cell (i := 1) rfl
          have e2 := hB.frozen 0
          have e3 := hB.frozen 1
          rw [g7]
          refine wpOp_list rfl ?_
          simp only [tmOf, putAll, List.map_cons, List.map_nil, List.setIfInBounds_toArray, List.set_cons_zero, List.set_cons_succ]
          go_wp2
        · rintro f ww b0 b1 hS hne hg0 hg1 hf0 hf1 hB0 hB1 hall
          obtain ⟨a1, p1, n1, c1, xs1, g6, hq1⟩ : ∃ a1 p1 n1 c1 xs1, f 6 = .agg #[.bool a1, .slice p1 n1 c1] ∧ RIs ww a1 p1 n1 c1 xs1 (z i / (G : Int)) := hall 6 (by decide)
          rw [g6] at hB0
          simp only [tmOf, putAll, List.map_cons, List.map_nil, List.setIfInBounds_toArray, List.set_cons_zero, List.set_cons_succ]
          refine ‹∀ (a' : Act) (w' : World), Met _ a' w' → _› _ _ ?_
          go_meet
          case rel => exact ⟨b0, b1, a1, p1, n1, c1, xs1, hf0, hf1, hB0, hq1, hS⟩
      case rest =>
      obtain ⟨b7, b8, a1, p1, n1, c1, xs1, rfl, rfl, kq, hq1, hb7⟩ := hcut
      have kO := kO.kept hb7
      have hbx := hbx.trans (hb7.mono hbx.size)
      have HQ := Lib.hid hq1
      have s0 := kq.cell (i := 0) rfl
      have s1 := kq.cell (i := 1) rfl
      clear hq1 hb7
      go_wp2_with fail
      have hln : n1 ≤ 1000000000 := by
        have h1 := HQ.out.len_le (Nat.lt_of_le_of_lt (Int.natAbs_ediv_le_natAbs _ _) (HZ.out i hlt).lt)
        have h2 := HN.out i hlt
        omega
      obtain ⟨q, hq⟩ : ∃ q, z i / (G : Int) = q := ⟨_, rfl⟩
      have hHQ := HQ.out
      rw [hq] at hHQ
      have hri := fun W hb => rint_any a1 p1 n1 c1 xs1 q W hln (hHQ.below hb)
      obtain ⟨t, ht⟩ : ∃ t, inI64 q = t := ⟨_, rfl⟩
      have hv : t = true → intV q = q := fun h => by unfold intV; rw [ht, h]; rfl
      unfold IntOut at hri
      rw [ht] at hri
      obtain ⟨v, hve⟩ : ∃ v, intV q = v := ⟨_, rfl⟩
      rw [hve] at hri hv
      have HRI := Lib.hid hri
      have HV := Lib.hid (And.intro hv (And.intro hq ht))
      clear hri hv hve ht hq hHQ hln HQ
      refine (HRI.out _ (Below.refl _ _)).mono ?_
      rintro e' w5 ⟨rfl, hb5⟩
      have kO := kO.kept hb5
      have hbx := hbx.trans (hb5.mono hbx.size)
      have fo := kO.frozen i
      have co := int4_at kO hlt
      clear s0 s1 hb5 HRI kq
      cases t
      · have HOK := Lib.hid (HF.out i hlt (by rw [HV.out.2.1]; exact HV.out.2.2))
        have kR := kR.kept hbx
        have d0 := kO.cell (i := 0) rfl
        have d1 := kO.cell (i := 1) rfl
        have d2 := kO.cell (i := 2) rfl
        have d3 := kO.cell (i := 3) rfl
        have e0 := kR.cell (i := 0) rfl
        have e1 := kR.cell (i := 1) rfl
        have e2 := kR.cell (i := 2) rfl
        have e3 := kR.cell (i := 3) rfl
        have q0 := kR.frozen 0
        have q1 := kR.frozen 1
        have q2 := kR.frozen 2
        have q3 := kR.frozen 3
        clear HV co fo
        go_wp2_with fail
        have L := Blk.put4 kR (.int .i64 (r 0)) (.int .i64 (r 1)) (.int .i64 (r 2)) (.int .i64 (r 3))
        have y0 := L.cell (i := 0) rfl
        have y1 := L.cell (i := 1) rfl
        have y2 := L.cell (i := 2) rfl
        have y3 := L.cell (i := 3) rfl
        refine bodyPost_ret (v := .tuple #[.agg #[.int .i64 (r 0), .int .i64 (r 1), .int .i64 (r 2), .int .i64 (r 3)], .bool false]) (by simp [results, Try.results48, go_sem, y0, y1, y2, y3]) rfl ⟨⟨r 0, r 1, r 2, r 3⟩, by rw [HOK.out], fun h => ?_, ?_⟩
        · rw [HOK.out] at h; cases h
        · exact ((((hbW.trans (hbx.mono hbW.size)).setCell (by simp only; omega) _).setCell (by simp only; omega) _).setCell (by simp only; omega) _).setCell (by simp only; omega) _
      · have hvq : v = q := HV.out.1 rfl
        subst hvq
        go_wp2_with fail
        go_roundg (4 - (i + 1))
        case measure => rw [HGK.out]; omega
        case rel =>
          refine ⟨i + 1, fun j => if j = i then v else r j, by omega, rfl, by go_num, ?_, kO.set_eq i _ (int4_set hlt v), hbx.setCell (by simp only; omega) _⟩
          intro j hj
          show inI64 (z j / (G : Int)) = true ∧ (if j = i then v else r j) = z j / (G : Int)
          by_cases hji : j = i
          · subst hji; rw [if_pos rfl, HV.out.2.1]; exact ⟨HV.out.2.2, rfl⟩
          · rw [if_neg hji]; exact HI.out j (by omega)
    · obtain rfl : i = 4 := by omega
      have HOK := Lib.hid (HT.out (fun j hj => (HI.out j hj).1))
      have kR := kR.kept hbx
      have d0 := kO.cell (i := 0) rfl
      have d1 := kO.cell (i := 1) rfl
      have d2 := kO.cell (i := 2) rfl
      have d3 := kO.cell (i := 3) rfl
      have e0 := kR.cell (i := 0) rfl
      have e1 := kR.cell (i := 1) rfl
      have e2 := kR.cell (i := 2) rfl
      have e3 := kR.cell (i := 3) rfl
      have q0 := kR.frozen 0
      have q1 := kR.frozen 1
      have q2 := kR.frozen 2
      have q3 := kR.frozen 3
      go_wp2_with fail
      have L := Blk.put4 kR (.int .i64 (r 0)) (.int .i64 (r 1)) (.int .i64 (r 2)) (.int .i64 (r 3))
      have y0 := L.cell (i := 0) rfl
      have y1 := L.cell (i := 1) rfl
      have y2 := L.cell (i := 2) rfl
      have y3 := L.cell (i := 3) rfl
      refine bodyPost_ret (v := .tuple #[.agg #[.int .i64 (r 0), .int .i64 (r 1), .int .i64 (r 2), .int .i64 (r 3)], .bool true]) (by simp [results, Try.results48, go_sem, y0, y1, y2, y3]) rfl ⟨⟨r 0, r 1, r 2, r 3⟩, by rw [HOK.out], fun _ => ?_, ?_⟩
      · rw [(HI.out 0 (by decide)).2, (HI.out 1 (by decide)).2, (HI.out 2 (by decide)).2, (HI.out 3 (by decide)).2]
      · exact ((((hbW.trans (hbx.mono hbW.size)).setCell (by simp only; omega) _).setCell (by simp only; omega) _).setCell (by simp only; omega) _).setCell (by simp only; omega) _

end Go.Proofs.Ytopdeakjnloemaa

namespace Go.Proofs.Ytopdeakjnloemaa
open Go.RowKit
variable {P : Program} {Q : Exit → Act → World → Prop}

/-- What an operation yields: where pu says so, a known value; else it fills a block of its own. -/
def RKeepP (pu : Nat → Bool) (vs : Nat → Value) (bs : Nat → Nat × Array Value) (T : TypeId) (i : Nat) (v : Value) (w : World) : Prop := if pu i = true then v = vs i else Blk w (bs i).1 (bs i).2 T

/-- The like, where stores (into blocks that no operation reads otherwise) may come between. -/
theorem wp_region_keepP {id : Nat} {l : List Oper} {a : Act} {w : World} (pu : Nat → Bool) (vs : Nat → Value) (bs : Nat → Nat × Array Value) (T : TypeId) (S : World → Prop) (hm : P.follows .mixedOrders = true) (hE : earlierB l = true) (hS : S w.drew)
    (mono : ∀ w w', S w → Below w.heap.size w w' → S w')
    (hbs : ∀ i j, i < l.length → j < l.length → pu i = false → pu j = false → i ≠ j → (bs i).1 ≠ (bs j).1)
    (step : ∀ i, i < l.length → pu i = true → ∀ f w', S w' → (∀ j, pu j = true → depB l i j = true → f j = vs j) → wpOp P l.toArray Q i (fun a' w'' => a' = tmOf a l (upd f i (vs i)) ∧ Below w'.heap.size w' w'') (tmOf a l f) w')
    (stor : ∀ i, i < l.length → pu i = false → ∀ f w', S w' → (∀ j, pu j = true → depB l i j = true → f j = vs j) → wpOp P l.toArray Q i (fun a' w'' => a' = tmOf a l f ∧ Blk w'' (bs i).1 (bs i).2 T ∧ S w'' ∧ ∀ B cs, B ≠ (bs i).1 → Blk w' B cs T → Blk w'' B cs T) (tmOf a l f) w')
    (done : ∀ f w', S w' → (∀ j, j < l.length → pu j = true → f j = vs j) → (∀ j, j < l.length → pu j = false → Blk w' (bs j).1 (bs j).2 T) → Q .normal (tmOf a l f) w') : (Code.region id l.toArray true).wp P Q a w := by
  have h : (Code.region id l.toArray true).wp P Q (tmOf a l (slotsOf a.tmps (l.map (·.dst)) 0)) w := by
    refine wp_region_inv hm hE (fun L a' w => ∃ f, a' = tmOf a l f ∧ S w ∧ ∀ j, L j = true → j < l.length ∧ RKeepP pu vs bs T j (f j) w) ⟨_, rfl, hS, fun j h => by cases h⟩ ?_ ?_
    · rintro L i a' w' ⟨f, rfl, hs, hr⟩ hi hL hd
      have hdep : ∀ j, pu j = true → depB l i j = true → f j = vs j := fun j hj hdj => by
        have := (hr j (depsB_dep hd hdj)).2
        unfold RKeepP at this
        rwa [if_pos hj] at this
      by_cases hin : pu i = true
      · refine wpOp_mono (fun a' w'' h => ?_) (step i hi hin f w' hs hdep)
        obtain ⟨rfl, hb⟩ := h
        refine ⟨_, rfl, mono _ _ hs hb, fun j hj => ?_⟩
        by_cases e : j = i
        · subst e; exact ⟨hi, by simp only [upd, if_true, RKeepP, if_pos hin]⟩
        · simp only [upd, if_neg e]
          obtain ⟨hjl, hj'⟩ := hr j (by simpa [e] using hj)
          refine ⟨hjl, ?_⟩
          unfold RKeepP at hj' ⊢
          split
          · rename_i h; rwa [if_pos h] at hj'
          · rename_i h; rw [if_neg h] at hj'; exact hj'.kept hb
      · refine wpOp_mono (fun a' w'' h => ?_) (stor i hi (by simpa using hin) f w' hs hdep)
        obtain ⟨rfl, hb, hs', hk⟩ := h
        refine ⟨f, rfl, hs', fun j hj => ?_⟩
        by_cases e : j = i
        · subst e; refine ⟨hi, ?_⟩; unfold RKeepP; rw [if_neg hin]; exact hb
        · obtain ⟨hjl, hj'⟩ := hr j (by simpa [e] using hj)
          refine ⟨hjl, ?_⟩
          unfold RKeepP at hj' ⊢
          split
          · rename_i h; rwa [if_pos h] at hj'
          · rename_i h; rw [if_neg h] at hj'; exact hk _ _ (hbs j i hjl hi (by simpa using h) (by simpa using hin) e) hj'
    · rintro L a' w' hall ⟨f, rfl, hs, hr⟩
      refine done f w' hs (fun j hj hn => ?_) (fun j hj hn => ?_)
      · have := (hr j (hall j hj)).2; unfold RKeepP at this; rwa [if_pos hn] at this
      · have := (hr j (hall j hj)).2; unfold RKeepP at this; rwa [if_neg (by simp [hn])] at this
  rw [tmOf_same] at h
  exact h

end Go.Proofs.Ytopdeakjnloemaa
