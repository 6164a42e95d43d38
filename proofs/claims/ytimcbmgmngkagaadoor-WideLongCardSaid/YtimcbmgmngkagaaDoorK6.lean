/-
  Sums, differences and products of two strings; Lists of strings that are numbers; their sum; Quotient and remainder of words; the long division as a premise.
-/
import Derived.Deep.RegionHeld3
import Derived.Test.YtimcbmgmngkagaaDoorK1
import Derived.Test.YtimcbmgmngkagaaDoorK2
import Derived.Test.YtimcbmgmngkagaaDoorK3
import Derived.Test.YtimcbmgmngkagaaDoorK4
import Derived.Test.YtimcbmgmngkagaaDoorK5
namespace Go.Proofs.YtimcbmgmngkagaaDoor
open Go.RowKit

def apiS (ok : Bool) (z : Int) : List UInt8 := if ok then outS z else []
def apiE (ok : Bool) (z : Int) : Int := if ok then outE z else 6

/-- What a call hands back: a string and an error. -/
def ApiIs (w : World) (ok : Bool) (z : Int) (e : Ending) (w' : World) : Prop := e = .returned (.tuple #[.string ⟨(apiS ok z).toArray⟩, .int .i64 (apiE ok z)]) ∧ Below w.heap.size w w'

theorem pair_boxes {W : World} (u0 u1 u2 u3 : Value) (t : TypeId) : Boxed2 ((W.alloc (.cells #[u0, u1] t)).alloc (.cells #[u2, u3] t)) W.heap.size u0 u1 t ∧ Boxed2 ((W.alloc (.cells #[u0, u1] t)).alloc (.cells #[u2, u3] t)) (W.heap.size + 1) u2 u3 t :=
  ⟨(Boxed2.new W _ _ _).alloc _, by have := Boxed2.new (W.alloc (.cells #[u0, u1] t)) u2 u3 t; simpa using this⟩

theorem Nums.two {W : World} {a b : Bool} {p q : Option Addr} {n c m d : Nat} {xs ys : List Nat} {x y : Int} {L : Nat} (hx : NumIs W a p n c xs x L) (hy : NumIs W b q m d ys y L) (t : TypeId) :
    Nums (W.alloc (.cells #[.bool a, .slice p n c, .bool b, .slice q m d] t)) (some ⟨W.heap.size, 0, none⟩) [x, y] L := by
  have hb : Below W.heap.size W (W.alloc (.cells #[.bool a, .slice p n c, .bool b, .slice q m d] t)) := (Below.refl _ _).alloc (Nat.le_refl _) _
  intro i z hz
  match i, hz with
  | 0, hz => cases hz; exact ⟨W.heap.size, 0, a, p, n, c, xs, rfl, by simp, by simp, by simp, hx.below hb⟩
  | 1, hz => cases hz; exact ⟨W.heap.size, 0, b, q, m, d, ys, rfl, by simp, by simp, by simp, hy.below hb⟩
  | i + 2, hz => simp at hz

theorem sumZ_two (x y : Int) : sumZ [x, y] = x + y := by simp [sumZ]

theorem sum_two {W : World} {a b : Bool} {p q : Option Addr} {n c m d : Nat} {xs ys : List Nat} {x y : Int} {L : Nat} (hx : NumIs W a p n c xs x L) (hy : NumIs W b q m d ys y L) (hL : L ≤ 100000000) (t : TypeId) (k B : Nat) (hB : W.heap.size = B) :
    Calls Tryd.prog 19 #[.slice (some ⟨B, 0, none⟩) 2 k] (W.alloc (.cells #[.bool a, .slice p n c, .bool b, .slice q m d] t)) (NumV (W.alloc (.cells #[.bool a, .slice p n c, .bool b, .slice q m d] t)) (x + y) (L + 2)) := by
  subst hB
  have h := sum_any (some ⟨W.heap.size, 0, none⟩) 2 k [x, y] L _ rfl (by omega) hL (Nums.two hx hy t)
  rw [sumZ_two] at h
  exact h

set_option maxHeartbeats 1000000 in
theorem mul_ok (s t : ByteArray) (w : World) (hs : s.size ≤ maxLen) (ht : t.size ≤ maxLen) (h1 : numB s.data.toList = true) (h2 : numB t.data.toList = true) (htab : Tab w) :
    Calls Tryd.prog 7 #[.string s, .string t] w (ApiIs w true (strV s.data.toList * strV t.data.toList)) := by
  go_enter Tryd.func7, Tryd.ntmps7
  go_wp2_with (first
    | (go_at_call 18; refine (pair_ok s t _ hs ht h1 h2).mono ?_; rintro e w1 ⟨a, p, n, c, xs, b, q, m, d, ys, rfl, hx, hy, hb1⟩; have hbA : Below w1.heap.size w1 ((w1.alloc (.cells #[.bool a, .slice p n c] 47)).alloc (.cells #[.bool b, .slice q m d] 47)) := (((Below.refl _ _).alloc (Nat.le_refl _) _).alloc (by simp) _); have hbW := hb1.trans (hbA.mono hb1.size); have hxA := hx.below hbA; have hyA := hy.below hbA)
    | (go_at_call 21; refine (product_num hxA hyA (by omega) (by omega)).mono ?_; rintro e w2 ⟨neg2, p2, n2, d2, xs2, rfl, hx2, hb2⟩; have hbX := hbW.trans (hb2.mono hbW.size))
    | (go_at_call 20; refine (written_any _ _ _ _ _ _ _ _ hx2 (by omega) (htab.below hbX)).mono ?_; rintro e w3 ⟨rfl, hb3⟩))
  go_ret2
  exact ⟨rfl, hbX.trans (hb3.mono hbX.size)⟩

set_option maxHeartbeats 1000000 in
theorem mul_bad (s t : ByteArray) (w : World) (hs : s.size ≤ maxLen) (ht : t.size ≤ maxLen) (h : (numB s.data.toList && numB t.data.toList) = false) (z : Int) :
    Calls Tryd.prog 7 #[.string s, .string t] w (ApiIs w false z) := by
  go_enter Tryd.func7, Tryd.ntmps7
  go_wp2_with (go_at_call 18; refine (pair_bad s t _ hs ht h).mono ?_; rintro e w1 ⟨rfl, hb1⟩)
  go_ret2
  exact ⟨rfl, (hb1.alloc hb1.size _).alloc (by have := hb1.size; simp; omega) _⟩

theorem mul_any (s t : ByteArray) (w : World) (hs : s.size ≤ maxLen) (ht : t.size ≤ maxLen) (htab : Tab w) :
    Calls Tryd.prog 7 #[.string s, .string t] w (ApiIs w (numB s.data.toList && numB t.data.toList) (strV s.data.toList * strV t.data.toList)) := by
  cases h : (numB s.data.toList && numB t.data.toList)
  · exact mul_bad s t w hs ht h _
  · simp only [Bool.and_eq_true] at h
    exact mul_ok s t w hs ht h.1 h.2 htab

set_option maxHeartbeats 1000000 in
theorem add_ok (s t : ByteArray) (w : World) (hs : s.size ≤ maxLen) (ht : t.size ≤ maxLen) (h1 : numB s.data.toList = true) (h2 : numB t.data.toList = true) (htab : Tab w) :
    Calls Tryd.prog 6 #[.string s, .string t] w (ApiIs w true (strV s.data.toList + strV t.data.toList)) := by
  go_enter Tryd.func6, Tryd.ntmps6
  go_wp2_with (first
    | (go_at_call 18; refine (pair_ok s t _ hs ht h1 h2).mono ?_; rintro e w1 ⟨a, p, n, c, xs, b, q, m, d, ys, rfl, hx, hy, hb1⟩; have hbA : Below w1.heap.size w1 ((w1.alloc (.cells #[.bool a, .slice p n c] 47)).alloc (.cells #[.bool b, .slice q m d] 47)) := (((Below.refl _ _).alloc (Nat.le_refl _) _).alloc (by simp) _); have hbW := hb1.trans (hbA.mono hb1.size); have hxA := hx.below hbA; have hyA := hy.below hbA)
    | (go_at_call 19; refine (sum_two hxA hyA (by omega) _ _ _ (by simp)).mono ?_; rintro e w2 ⟨neg2, p2, n2, d2, xs2, rfl, hx2, hb2⟩; have hbX := (hbW.alloc hbW.size _).trans (hb2.mono (by have := hbW.size; rw [World.size_alloc]; omega)))
    | (go_at_call 20; refine (written_any _ _ _ _ _ _ _ _ hx2 (by omega) (htab.below hbX)).mono ?_; rintro e w3 ⟨rfl, hb3⟩))
  go_ret2
  exact ⟨rfl, hbX.trans (hb3.mono hbX.size)⟩

set_option maxHeartbeats 1000000 in
theorem add_bad (s t : ByteArray) (w : World) (hs : s.size ≤ maxLen) (ht : t.size ≤ maxLen) (h : (numB s.data.toList && numB t.data.toList) = false) (z : Int) :
    Calls Tryd.prog 6 #[.string s, .string t] w (ApiIs w false z) := by
  go_enter Tryd.func6, Tryd.ntmps6
  go_wp2_with (go_at_call 18; refine (pair_bad s t _ hs ht h).mono ?_; rintro e w1 ⟨rfl, hb1⟩)
  go_ret2
  exact ⟨rfl, (hb1.alloc hb1.size _).alloc (by have := hb1.size; simp; omega) _⟩

theorem add_any (s t : ByteArray) (w : World) (hs : s.size ≤ maxLen) (ht : t.size ≤ maxLen) (htab : Tab w) :
    Calls Tryd.prog 6 #[.string s, .string t] w (ApiIs w (numB s.data.toList && numB t.data.toList) (strV s.data.toList + strV t.data.toList)) := by
  cases h : (numB s.data.toList && numB t.data.toList)
  · exact add_bad s t w hs ht h _
  · simp only [Bool.and_eq_true] at h
    exact add_ok s t w hs ht h.1 h.2 htab

set_option maxHeartbeats 1000000 in
theorem sub_ok (s t : ByteArray) (w : World) (hs : s.size ≤ maxLen) (ht : t.size ≤ maxLen) (h1 : numB s.data.toList = true) (h2 : numB t.data.toList = true) (htab : Tab w) :
    Calls Tryd.prog 8 #[.string s, .string t] w (ApiIs w true (strV s.data.toList - strV t.data.toList)) := by
  go_enter Tryd.func8, Tryd.ntmps8
  go_wp2_with (go_at_call 18; refine (pair_ok s t _ hs ht h1 h2).mono ?_; rintro e w1 ⟨a, p, n, c, xs, b, q, m, d, ys, rfl, hx, hy, hb1⟩; have hbA : Below w1.heap.size w1 ((w1.alloc (.cells #[.bool a, .slice p n c] 47)).alloc (.cells #[.bool b, .slice q m d] 47)) := (((Below.refl _ _).alloc (Nat.le_refl _) _).alloc (by simp) _); have hbW := hb1.trans (hbA.mono hb1.size); have hxA := hx.below hbA; have hyA := hy.below hbA; have B1 := (pair_boxes (W := w1) (.bool a) (.slice p n c) (.bool b) (.slice q m d) 47).1; have B2 := (pair_boxes (W := w1) (.bool a) (.slice p n c) (.bool b) (.slice q m d) 47).2)
  generalize ((w1.alloc (.cells #[.bool a, .slice p n c] 47)).alloc (.cells #[.bool b, .slice q m d] 47)) = wA at *
  have c0 : wA.drew.cell? _ = _ := B1.cell0
  have c1 : wA.drew.cell? _ = _ := B1.cell1
  have c2 : wA.drew.cell? _ = _ := B2.cell0
  have c3 : wA.drew.cell? _ = _ := B2.cell1
  go_region_held3 (fun w' => w'.cell? ⟨w1.heap.size, 0, none⟩ = some (.bool a) ∧ w'.cell? ⟨w1.heap.size, 1, none⟩ = some (.slice p n c) ∧ w'.cell? ⟨w1.heap.size + 1, 0, none⟩ = some (.bool b) ∧ w'.cell? ⟨w1.heap.size + 1, 1, none⟩ = some (.slice q m d))
      (((repeat' apply And.intro) <;> (repeat (first | (simp only [*]; done) | refine cell_alloc ?_ | refine cell_call (by assumption) ?_ | refine cell_call (W := wA.drew) (by assumption) ?_)); done))
      (first
        | (go_at_call 22; refine (opposite_num (show NumIs wA.drew b q m d ys _ 223 from { hyA with rd := hyA.rd })).mono ?_; rintro e w4 ⟨neg4, p4, n4, d4, xs4, rfl, hx4, hb4⟩; have e0 := cell_call (W := wA.drew) hb4 c0; have e1 := cell_call (W := wA.drew) hb4 c1; have e2 := cell_call (W := wA.drew) hb4 c2; have e3 := cell_call (W := wA.drew) hb4 c3; have hbV := hbW.drew.trans (hb4.mono hbW.size); have hxV := NumIs.below (show NumIs wA.drew a p n c xs _ 223 from { hxA with rd := hxA.rd }) hb4)
        | (go_at_call 19; refine (sum_two hxV hx4 (by omega) _ _ _ (by simp)).mono ?_; rintro e w2 ⟨neg2, p2, n2, d2, xs2, rfl, hx2, hb2⟩; have g0 := cell_call hb2 (cell_alloc e0); have g1 := cell_call hb2 (cell_alloc e1); have g2 := cell_call hb2 (cell_alloc e2); have g3 := cell_call hb2 (cell_alloc e3); have hbX := (hbV.alloc hbV.size _).trans (hb2.mono (by have := hbV.size; rw [World.size_alloc]; omega)))
        | (go_at_call 20; refine (written_any _ _ _ _ _ _ _ _ hx2 (by omega) (htab.below hbX)).mono ?_; rintro e w3 ⟨rfl, hb3⟩; have i0 := cell_call hb3 g0; have i1 := cell_call hb3 g1; have i2 := cell_call hb3 g2; have i3 := cell_call hb3 g3))
  all_goals go_wp2
  go_ret2
  exact ⟨rfl, hbX.trans (hb3.mono hbX.size)⟩

set_option maxHeartbeats 1000000 in
theorem sub_bad (s t : ByteArray) (w : World) (hs : s.size ≤ maxLen) (ht : t.size ≤ maxLen) (h : (numB s.data.toList && numB t.data.toList) = false) (z : Int) :
    Calls Tryd.prog 8 #[.string s, .string t] w (ApiIs w false z) := by
  go_enter Tryd.func8, Tryd.ntmps8
  go_wp2_with (go_at_call 18; refine (pair_bad s t _ hs ht h).mono ?_; rintro e w1 ⟨rfl, hb1⟩)
  go_ret2
  exact ⟨rfl, (hb1.alloc hb1.size _).alloc (by have := hb1.size; simp; omega) _⟩

theorem sub_any (s t : ByteArray) (w : World) (hs : s.size ≤ maxLen) (ht : t.size ≤ maxLen) (htab : Tab w) :
    Calls Tryd.prog 8 #[.string s, .string t] w (ApiIs w (numB s.data.toList && numB t.data.toList) (strV s.data.toList - strV t.data.toList)) := by
  cases h : (numB s.data.toList && numB t.data.toList)
  · exact sub_bad s t w hs ht h _
  · simp only [Bool.and_eq_true] at h
    exact sub_ok s t w hs ht h.1 h.2 htab

end Go.Proofs.YtimcbmgmngkagaaDoor

namespace Go.Proofs.YtimcbmgmngkagaaDoor
open Go.RowKit

/-- A list of strings. -/
def RdS (w : World) (a : Option Addr) (l : List ByteArray) : Prop := ∀ i s, l[i]? = some s → ∃ b off, a = some ⟨b, off, none⟩ ∧ b < w.heap.size ∧ w.cell? ⟨b, off + i, none⟩ = some (.string s)

theorem RdS.below {w w' : World} {a : Option Addr} {l : List ByteArray} (h : RdS w a l) (hb : Below w.heap.size w w') : RdS w' a l := by
  intro i s hi
  obtain ⟨b, off, ha, hlt, hc⟩ := h i s hi
  exact ⟨b, off, ha, Nat.lt_of_lt_of_le hlt hb.size, (hb.cell (p := ⟨b, _, none⟩) hlt).trans hc⟩

/-- All are numbers. -/
def allB (l : List ByteArray) : Bool := l.all fun s => numB s.data.toList

theorem all_take {l : List ByteArray} {j : Nat} (hj : j < l.length) (h : allB (l.take j) = true) (h2 : numB l[j].data.toList = true) : allB (l.take (j + 1)) = true := by
  unfold allB at *
  rw [List.take_succ_eq_append_getElem hj, List.all_append, h]
  simpa using h2

theorem all_not {l : List ByteArray} {j : Nat} (hj : j < l.length) (h2 : numB l[j].data.toList = false) : allB l = false := by
  unfold allB
  rw [List.all_eq_false]
  exact ⟨l[j], List.getElem_mem _, by simp [h2]⟩

set_option maxHeartbeats 1000000 in
theorem areAll_any (a : Option Addr) (n c : Nat) (l : List ByteArray) (w : World) (hl : l.length = n) (hn : n ≤ 1000000000000) (hr : RdS w a l) (hs : ∀ s ∈ l, s.size ≤ maxLen) :
    Calls Tryd.prog 25 #[.slice a n c] w fun e w' => e = .returned (.bool (allB l)) ∧ Below w.heap.size w w' := by
  have HL := Lib.hid hl
  have HR := Lib.hid hr
  have HS := Lib.hid hs
  clear hl hr hs
  go_enter Tryd.func25, Tryd.ntmps25
  go_wp2
  go_loopw [4, 7] (fun v4 i wr => ∃ j : Nat, j ≤ n ∧ i = .int .i64 j ∧ Hid (allB (l.take j) = true) ∧ Below w.heap.size w wr) (fun _ i _ => n - (intOf i).toNat)
  case atStart => exact ⟨0, Nat.zero_le _, rfl, rfl, Below.refl _ _⟩
  case round =>
    obtain ⟨j, hj, rfl, hall, hb⟩ := hrel
    by_cases hlt : j < n
    · have hjl : j < l.length := by rw [HL.out]; exact hlt
      obtain ⟨b, off, rfl, hb1, hc⟩ := (HR.out.below hb) j _ (List.getElem?_eq_getElem hjl)
      have hsz := HS.out _ (List.getElem_mem hjl)
      generalize hx : l[j] = x at *
      have HX := Lib.hid hx
      clear hx
      cases hnb : numB x.data.toList
      · have HN := Lib.hid hnb
        clear hnb
        go_wp2_with (go_at_call 14; refine (is_any x _ hsz).mono ?_; rintro e w1 ⟨rfl, hb1⟩; rw [HN.out])
        go_ret
        refine ⟨?_, hb.trans (hb1.mono hb.size)⟩
        rw [all_not hjl (by rw [HX.out]; exact HN.out)]
        rfl
      · have HN := Lib.hid hnb
        clear hnb
        go_wp2_with (go_at_call 14; refine (is_any x _ hsz).mono ?_; rintro e w1 ⟨rfl, hb1⟩; rw [HN.out])
        go_roundw
        case rel => exact ⟨j + 1, by omega, by go_num, all_take hjl hall.out (by rw [HX.out]; exact HN.out), hb.trans (hb1.mono hb.size)⟩
        case measure => simp [intOf]; omega
    · obtain rfl : j = n := by omega
      go_wp2
      go_ret
      have := hall.out
      rw [List.take_of_length_le (by rw [HL.out]; exact Nat.le_refl _)] at this
      exact ⟨by rw [this]; rfl, hb⟩


theorem Tryd.info79 : (Tryd.prog.info? 47).map (fun i => (i.zero, i.size, i.bytes)) = some (some (.agg #[.bool false, .slice none 0 0]), 2, 32) := by kernel_rfl

theorem mkNums (n : Nat) (hn : n ≤ 1000000) (w : World) : (Instr.makeSlice 57 (.int .i64 (n : Int)) (.int .i64 (n : Int))).run Tryd.prog w = .ok (.slice (some ⟨w.heap.size, 0, none⟩) n n) (w.alloc (.cells (Go.madeCells #[.bool false, .slice none 0 0] (n * 2)) 47)) := by
  obtain ⟨i, hi, hz, hs, hb⟩ := info_parts Tryd.info79
  have hr := run_make (P := Tryd.prog) w 57 47 i _ Tryd.underlying57 hi hz .i64 .i64 n n (by omega) (Int.le_refl _) (by rw [hb]; omega) (by omega)
  simp only [Int.toNat_natCast, hs] at hr
  exact hr

theorem madeNums_at (n i : Nat) (v : Value) (h : (Go.madeCells #[.bool false, .slice none 0 0] n)[i]? = some v) (x : Int) : v ≠ .int .u64 x := by
  intro e
  subst e
  have hlt : i < (Go.madeCells #[Value.bool false, .slice none 0 0] n).size := (Array.getElem?_eq_some_iff.1 h).1
  simp only [Go.madeCells] at h hlt
  simp at hlt
  simp [hlt] at h
  rcases Nat.mod_two_eq_zero_or_one i with e | e <;> rw [e] at h <;> simp at h

/-- What is done of a row of numbers. -/
def Part (w : World) (B n : Nat) (zs : List Int) (L : Nat) : Prop :=
  ∃ cs : Array Value, w.heap[B]? = some (.cells cs 47 (0, 0)) ∧ cs.size = n * 2 ∧ (∀ (i : Nat) (v : Value), cs[i]? = some v → ∀ x : Int, v ≠ Value.int .u64 x) ∧
    ∀ i z, zs[i]? = some z → ∃ neg p m c xs, cs[i * 2]? = some (.bool neg) ∧ cs[i * 2 + 1]? = some (.slice p m c) ∧ NumIs w neg p m c xs z L

theorem Part.nums {w : World} {B n : Nat} {zs : List Int} {L : Nat} (h : Part w B n zs L) : Nums w (some ⟨B, 0, none⟩) zs L := by
  obtain ⟨cs, hh, hn, _, hz⟩ := h
  intro i z hi
  obtain ⟨neg, p, m, c, xs, h0, h1, hx⟩ := hz i z hi
  refine ⟨B, 0, neg, p, m, c, xs, rfl, (Array.getElem?_eq_some_iff.1 hh).1, ?_, ?_, hx⟩
  · simp [World.cell?, hh, h0]
  · simp [World.cell?, hh, h1]

theorem Part.below {w w' : World} {B n : Nat} {zs : List Int} {L : Nat} (h : Part w B n zs L) (hb : Below w.heap.size w w') : Part w' B n zs L := by
  obtain ⟨cs, hh, hn, hv, hz⟩ := h
  refine ⟨cs, (hb.block B (Array.getElem?_eq_some_iff.1 hh).1).trans hh, hn, hv, fun i z hi => ?_⟩
  obtain ⟨neg, p, m, c, xs, h0, h1, hx⟩ := hz i z hi
  exact ⟨neg, p, m, c, xs, h0, h1, hx.below hb⟩

theorem NumIs.set {w : World} {neg : Bool} {p : Option Addr} {n c : Nat} {xs : List Nat} {z : Int} {L : Nat} (h : NumIs w neg p n c xs z L) {B o : Nat} {u : Value} (hu : w.cell? ⟨B, o, none⟩ = some u) (hne : ∀ x, u ≠ .int .u64 x) (v : Value) : NumIs (w.setCell ⟨B, o, none⟩ v) neg p n c xs z L :=
  { h with rd := h.rd.setOther hu hne v }

theorem Part.put {w : World} {B n : Nat} {zs : List Int} {L : Nat} (h : Part w B n zs L) {neg : Bool} {p : Option Addr} {m c : Nat} {xs : List Nat} {z : Int} (hx : NumIs w neg p m c xs z L) (hlt : zs.length < n) :
    Part ((w.setCell ⟨B, zs.length * 2, none⟩ (.bool neg)).setCell ⟨B, zs.length * 2 + 1, none⟩ (.slice p m c)) B n (zs ++ [z]) L ∧
    (∃ u v, w.cell? ⟨B, zs.length * 2, none⟩ = some u ∧ w.cell? ⟨B, zs.length * 2 + 1, none⟩ = some v) ∧ (∀ i, w.frozen? ⟨B, i, none⟩ = false) := by
  obtain ⟨cs, hh, hn, hv, hz⟩ := h
  have hc : ∀ i, w.cell? ⟨B, i, none⟩ = cs[i]? := fun i => by simp [World.cell?, hh]
  have l0 : zs.length * 2 < cs.size := by omega
  have l1 : zs.length * 2 + 1 < cs.size := by omega
  have u0 : w.cell? ⟨B, zs.length * 2, none⟩ = some cs[zs.length * 2] := by rw [hc, Array.getElem?_eq_getElem l0]
  have u1 : w.cell? ⟨B, zs.length * 2 + 1, none⟩ = some cs[zs.length * 2 + 1] := by rw [hc, Array.getElem?_eq_getElem l1]
  have u1' : (w.setCell ⟨B, zs.length * 2, none⟩ (.bool neg)).cell? ⟨B, zs.length * 2 + 1, none⟩ = some cs[zs.length * 2 + 1] := (World.cell?_setCell_other _ _ _ _ (by simp)).trans u1
  have n0 := hv _ _ (Array.getElem?_eq_getElem l0)
  have n1 := hv _ _ (Array.getElem?_eq_getElem l1)
  have hset : ∀ {q : Bool} {r : Option Addr} {k d : Nat} {ys : List Nat} {y : Int}, NumIs w q r k d ys y L → NumIs ((w.setCell ⟨B, zs.length * 2, none⟩ (.bool neg)).setCell ⟨B, zs.length * 2 + 1, none⟩ (.slice p m c)) q r k d ys y L := fun g => (g.set u0 n0 _).set u1' n1 _
  refine ⟨⟨(cs.setIfInBounds (zs.length * 2) (.bool neg)).setIfInBounds (zs.length * 2 + 1) (.slice p m c), ?_, by simp [hn], ?_, ?_⟩, ⟨_, _, u0, u1⟩, fun i => by simp [World.frozen?, hh]⟩
  · rw [Lib.heap_setCell_same (Lib.heap_setCell_same hh _)]
  · intro i v hi x
    rw [Array.getElem?_setIfInBounds] at hi
    split at hi
    · split at hi
      · cases hi; simp
      · cases hi
    · rw [Array.getElem?_setIfInBounds] at hi
      split at hi
      · first
          | (cases hi; simp; done)
          | (split at hi <;> cases hi; simp)
      · exact hv _ _ hi x
  · intro i z' hi
    rcases Nat.lt_or_ge i zs.length with hlt' | hge
    · rw [List.getElem?_append_left hlt'] at hi
      obtain ⟨neg', p', m', c', xs', h0, h1, hx'⟩ := hz i z' hi
      refine ⟨neg', p', m', c', xs', ?_, ?_, hset hx'⟩
      · rw [Array.getElem?_setIfInBounds_ne (by omega), Array.getElem?_setIfInBounds_ne (by omega)]; exact h0
      · rw [Array.getElem?_setIfInBounds_ne (by omega), Array.getElem?_setIfInBounds_ne (by omega)]; exact h1
    · obtain rfl : i = zs.length := by
        have := (List.getElem?_eq_some_iff.1 hi).1
        simp at this; omega
      simp at hi
      subst hi
      refine ⟨neg, p, m, c, xs, ?_, ?_, hset hx⟩
      · rw [Array.getElem?_setIfInBounds_ne (by omega), Array.getElem?_setIfInBounds_self_of_lt l0]
      · rw [Array.getElem?_setIfInBounds_self_of_lt (by simp; omega)]


def vals (l : List ByteArray) : List Int := l.map fun s => strV s.data.toList

theorem allB_at {l : List ByteArray} (h : allB l = true) {j : Nat} (hj : j < l.length) : numB l[j].data.toList = true := (List.all_eq_true.1 h) _ (List.getElem_mem hj)

set_option maxHeartbeats 1000000 in
theorem readAll_any (a : Option Addr) (n c : Nat) (l : List ByteArray) (w : World) (hl : l.length = n) (hn : n ≤ 1000000) (hr : RdS w a l) (hs : ∀ s ∈ l, s.size ≤ maxLen) (hall : allB l = true) :
    Calls Tryd.prog 26 #[.slice a n c] w fun e w' => ∃ B, e = .returned (.slice (some ⟨B, 0, none⟩) n n) ∧ Nums w' (some ⟨B, 0, none⟩) (vals l) 223 ∧ Below w.heap.size w w' := by
  have hmk := mkNums n hn w
  have hP : Part (w.alloc (.cells (Go.madeCells #[.bool false, .slice none 0 0] (n * 2)) 47)) w.heap.size n [] 223 :=
    ⟨_, World.alloc_heap_new w _, Go.size_madeCells _ _, fun i v h x => madeNums_at _ _ _ h x, fun i z h => by simp at h⟩
  have hB0 : Below w.heap.size w (w.alloc (.cells (Go.madeCells #[.bool false, .slice none 0 0] (n * 2)) 47)) := (Below.refl _ w).alloc (Nat.le_refl _) _
  have y0 : w.heap.size < (w.alloc (.cells (Go.madeCells #[.bool false, .slice none 0 0] (n * 2)) 47)).heap.size := by simp
  have HL := Lib.hid hl
  have HR := Lib.hid hr
  have HS := Lib.hid hs
  have HA := Lib.hid hall
  clear hl hr hs hall
  go_enter Tryd.func26, Tryd.ntmps26
  go_wp2
  go_loopw [4, 5, 11] (fun v4 v5 i wr => ∃ j : Nat, j ≤ n ∧ i = .int .i64 j ∧ Hid (Part wr w.heap.size n (vals (l.take j)) 223) ∧ w.heap.size < wr.heap.size ∧ Below w.heap.size w wr) (fun _ _ i _ => n - (intOf i).toNat)
  case atStart => exact ⟨0, Nat.zero_le _, rfl, hP, y0, hB0⟩
  case round =>
    obtain ⟨j, hj, rfl, hp, hlt0, hb⟩ := hrel
    by_cases hlt : j < n
    · have hjl : j < l.length := by rw [HL.out]; exact hlt
      have hlen : (vals (l.take j)).length = j := by simp [vals]; omega
      obtain ⟨b, off, rfl, hb1, hc⟩ := (HR.out.below hb) j _ (List.getElem?_eq_getElem hjl)
      have hsz := HS.out _ (List.getElem_mem hjl)
      have hnb := allB_at HA.out hjl
      have hvs : vals (l.take (j + 1)) = vals (l.take j) ++ [strV l[j].data.toList] := by unfold vals; rw [List.take_succ_eq_append_getElem hjl, List.map_append]; rfl
      generalize l[j] = x at *
      have HN := Lib.hid hnb
      have HV := Lib.hid hvs
      clear hnb hvs
      go_wp2_with (go_at_call 34; refine (read_any x _ hsz HN.out).mono ?_; rintro e w1 ⟨neg, p, m, d, xs, rfl, hx, hb2⟩; obtain ⟨q1, ⟨u, v, q2, q3⟩, q4⟩ := (hp.out.below hb2).put hx (by rw [hlen]; exact hlt); rw [hlen] at q1 q2 q3; have q5 := q4 (j * 2); have q6 := q4 (j * 2 + 1))
      go_roundw
      case rel => exact ⟨j + 1, by omega, by go_num, (by rw [HV.out]; exact q1), by simp; exact Nat.lt_of_lt_of_le hlt0 hb2.size, ((hb.trans (hb2.mono hb.size)).setCell (by simp) _).setCell (by simp) _⟩
      case measure => simp [intOf]; omega
    · obtain rfl : j = n := by omega
      go_wp2
      go_ret
      have := hp.out.nums
      rw [List.take_of_length_le (by rw [HL.out]; exact Nat.le_refl _)] at this
      exact ⟨_, rfl, this, hb⟩

end Go.Proofs.YtimcbmgmngkagaaDoor

namespace Go.Proofs.YtimcbmgmngkagaaDoor
open Go.RowKit

/-- What a division hands back. -/
def DivOut (w : World) (xs ys : List Nat) (e : Ending) (w' : World) : Prop :=
  ∃ p n c qs q m d rs, e = .returned (.tuple #[.slice p n c, .slice q m d]) ∧ Rd .u64 w' p n qs ∧ n ≤ c ∧ Cn BW qs ∧ Rd .u64 w' q m rs ∧ m ≤ d ∧ Cn BW rs ∧ dv BW xs = dv BW qs * dv BW ys + dv BW rs ∧ dv BW rs < dv BW ys ∧ Below w.heap.size w w'

theorem sgnCmp_neg {a b : Int} : sgnCmp a b < 0 ↔ a < b := by
  unfold sgnCmp; split
  · simp; omega
  · split <;> simp <;> omega

theorem one_word (w : World) (r : Nat) : Rd .u64 (w.alloc (.cells #[.int .u64 (r : Int)] 73)) (some ⟨w.heap.size, 0, none⟩) 1 [r] :=
  ⟨rfl, fun i hi => ⟨w.heap.size, 0, rfl, by simp, by obtain rfl : i = 0 := by omega
                                                      simp [go_sem]⟩⟩

set_option maxHeartbeats 1000000 in
/-- x is less than y, or y has one word. -/
theorem divideWords_small (p q : Option Addr) (n c m d : Nat) (xs ys : List Nat) (w : World) (hn : n ≤ 1000000) (hm : m ≤ 1000000) (hc : n ≤ c) (hd : m ≤ d) (hx : Rd .u64 w p n xs) (hy : Rd .u64 w q m ys) (gx : Cn BW xs) (gy : Cn BW ys) (h0 : 0 < dv BW ys)
    (h : dv BW xs < dv BW ys ∨ m = 1) : Calls Tryd.prog 41 #[.slice p n c, .slice q m d] w (DivOut w xs ys) := by
  by_cases hlt : dv BW xs < dv BW ys
  · have h1 : sgnCmp (dv BW xs) (dv BW ys) = -1 := sgnCmp_lt (by omega)
    have H1 := Lib.hid h1
    have HX := Lib.hid hx
    clear h h1
    go_enter Tryd.func41, Tryd.ntmps41
    go_wp2_with (go_at_call 49; refine (compareWords_any _ _ _ _ _ _ xs ys _ (by omega) (by omega) hx hy gx gy).mono ?_; rintro e w1 ⟨rfl, hb1⟩; rw [H1.out])
    go_ret2
    exact ⟨none, 0, 0, [], p, n, c, xs, rfl, Rd.nil _ _ _, Nat.le_refl _, Cn.nil _, hx.below hb1, hc, gx, by simp [dv], hlt, hb1⟩
  · obtain rfl : m = 1 := h.resolve_left hlt
    have h1 : ¬ sgnCmp (dv BW xs) (dv BW ys) < 0 := by rw [sgnCmp_neg]; omega
    obtain ⟨y, rfl⟩ : ∃ y, ys = [y] := by
      have := hy.1
      match ys, this with
      | [y], _ => exact ⟨y, rfl⟩
    have hyy : dv BW [y] = y := by simp [dv]
    have hy0 : 0 < y := by rw [hyy] at h0; exact h0
    have hyB : y < 1000000000 := gy.1 y (by simp)
    obtain ⟨SG, hSG⟩ : ∃ SG, sgnCmp (dv BW xs) (dv BW [y]) = SG := ⟨_, rfl⟩
    rw [hSG] at h1
    have H1 := Lib.hid hSG
    obtain ⟨b, off, rfl, hb, hcell⟩ := hy.2 0 (by omega)
    have hcell' : w.cell? ⟨b, off, none⟩ = some (.int .u64 (y : Int)) := by simpa using hcell
    clear hSG h hcell
    go_enter Tryd.func41, Tryd.ntmps41
    go_wp2_with (first
      | (go_at_call 49; refine (compareWords_any _ _ _ _ _ _ xs [y] _ (by omega) (by omega) hx hy gx gy).mono ?_; rintro e w1 ⟨rfl, hb1⟩; rw [H1.out]; have hcell1 := (hb1.cell (p := ⟨b, off, none⟩) hb).trans hcell')
      | (go_at_call 56; refine (divideByWord_any _ _ _ y xs _ (by omega) (hx.below hb1) gx.1 hy0 hyB).mono ?_; rintro e w2 ⟨p', n', c', qs, r, rfl, r1, r2, r3, r4, r5, hb2⟩; have hR1 := one_word w2 r)
      | (go_at_call 53; refine (trimmed_any _ _ _ [r] _ (by decide) (Nat.le_refl _) hR1).mono ?_; rintro e w3 ⟨rfl, rfl⟩))
    go_ret2
    have gd : Dg BW [r] := Dg.cons (show r < 1000000000 by omega) (Dg.nil _)
    have g1 : trimLen [r] 1 ≤ 1 := trimLen_le _ _
    have hbn : Below w2.heap.size w2 (w2.alloc (.cells #[.int .u64 (r : Int)] 73)) := (Below.refl _ _).alloc (Nat.le_refl _) _
    have hv : dv BW (trimZ [r]) = r := by rw [dv_trimZ]; simp [dv]
    refine ⟨_, _, _, qs, _, _, _, trimZ [r], rfl, r1.below hbn, r2, r3, ?_, Nat.le_refl _, trimZ_cn gd, ?_, ?_, (hb1.trans (hb2.mono hb1.size)).trans (hbn.mono (Nat.le_trans hb1.size hb2.size))⟩
    · exact hR1.take _ g1
    · rw [hv, hyy]; exact r5
    · rw [hv, hyy]; exact r4


theorem four_boxes {W : World} (u0 u1 u2 u3 u4 u5 u6 u7 : Value) (t : TypeId) :
    Boxed2 ((((W.alloc (.cells #[u0, u1] t)).alloc (.cells #[u2, u3] t)).alloc (.cells #[u4, u5] t)).alloc (.cells #[u6, u7] t)) W.heap.size u0 u1 t ∧
    Boxed2 ((((W.alloc (.cells #[u0, u1] t)).alloc (.cells #[u2, u3] t)).alloc (.cells #[u4, u5] t)).alloc (.cells #[u6, u7] t)) (W.heap.size + 1) u2 u3 t ∧
    Boxed2 ((((W.alloc (.cells #[u0, u1] t)).alloc (.cells #[u2, u3] t)).alloc (.cells #[u4, u5] t)).alloc (.cells #[u6, u7] t)) (W.heap.size + 1 + 1) u4 u5 t ∧
    Boxed2 ((((W.alloc (.cells #[u0, u1] t)).alloc (.cells #[u2, u3] t)).alloc (.cells #[u4, u5] t)).alloc (.cells #[u6, u7] t)) (W.heap.size + 1 + 1 + 1) u6 u7 t := by
  obtain ⟨a, b⟩ := pair_boxes (W := W) u0 u1 u2 u3 t
  obtain ⟨c, d⟩ := pair_boxes (W := (W.alloc (.cells #[u0, u1] t)).alloc (.cells #[u2, u3] t)) u4 u5 u6 u7 t
  simp only [World.size_alloc] at c d
  exact ⟨(a.alloc _).alloc _, (b.alloc _).alloc _, c, d⟩

/-- Quotient and remainder, from 0 on. -/
def QuotOut (w : World) (x y : Int) (L : Nat) (e : Ending) (w' : World) : Prop :=
  ∃ a p n c xs q m d ys, e = .returned (.tuple #[.agg #[.bool a, .slice p n c], .agg #[.bool false, .slice q m d]]) ∧ NumIs w' a p n c xs (x / y) L ∧ NumIs w' false q m d ys (x % y) L ∧ Below w.heap.size w w'

theorem quot_says {X Y Q R : Nat} (h : X = Q * Y + R) (hR : R < Y) (a b : Bool) (ha : a = true → R = 0) :
    sv (a != b) Q = sv a X / sv b Y ∧ (R : Int) = sv a X % sv b Y := by
  have hY : (0 : Int) < (Y : Int) := by omega
  have h' : (X : Int) = (Q : Int) * (Y : Int) + (R : Int) := by rw [h]; simp
  have key : ∀ (q r x : Int), x = q * (Y : Int) + r → 0 ≤ r → r < (Y : Int) → x / (Y : Int) = q ∧ x % (Y : Int) = r := by
    intro q r x e h0 h1
    exact (Int.ediv_emod_unique hY).2 ⟨by rw [e, Int.mul_comm]; omega, h0, h1⟩
  cases a
  · obtain ⟨k1, k2⟩ := key Q R X h' (by omega) (by omega)
    cases b
    · exact ⟨k1.symm, k2.symm⟩
    · simp [sv, Int.ediv_neg, Int.emod_neg, k1, k2]
  · have hR0 : R = 0 := ha rfl
    subst hR0
    obtain ⟨k1, k2⟩ := key (-Q) 0 (-X) (by rw [h']; simp [Int.neg_mul]) (by omega) (by omega)
    cases b
    · simp [sv, k1, k2]
    · simp [sv, Int.ediv_neg, Int.emod_neg, k1, k2]

theorem quot_says' {X Y Q R : Nat} (h : X = Q * Y + R) (hR : R < Y) (hR0 : 0 < R) (b : Bool) :
    sv (true != b) (Q + 1) = sv true X / sv b Y ∧ ((Y - R : Nat) : Int) = sv true X % sv b Y := by
  have hY : (0 : Int) < (Y : Int) := by omega
  have h' : (X : Int) = (Q : Int) * (Y : Int) + (R : Int) := by rw [h]; simp
  obtain ⟨k1, k2⟩ := (Int.ediv_emod_unique (a := -(X : Int)) (q := -((Q : Int) + 1)) (r := (Y : Int) - R) hY).2 ⟨by rw [h', Int.mul_neg, Int.mul_add, Int.mul_comm (Y : Int) (Q : Int)]; omega, by omega, by omega⟩
  have e : ((Y - R : Nat) : Int) = (Y : Int) - R := by omega
  rw [e]
  cases b
  · simp [sv, k1, k2]
  · simp [sv, Int.ediv_neg, Int.emod_neg, k1, k2]


theorem quot_close {W : World} {B2 B3 : Nat} (hne : B2 ≠ B3) {t : TypeId} (l2 : Boxed2 W B2 (.bool false) (.slice none 0 0) t) (l3 : Boxed2 W B3 (.bool false) (.slice none 0 0) t) (neg : Bool) (p q : Option Addr) (n c m d : Nat) :
    Boxed2 ((((W.setCell ⟨B2, 0, none⟩ (.bool neg)).setCell ⟨B2, 1, none⟩ (.slice p n c)).setCell ⟨B3, 0, none⟩ (.bool false)).setCell ⟨B3, 1, none⟩ (.slice q m d)) B2 (.bool neg) (.slice p n c) t ∧
    Boxed2 ((((W.setCell ⟨B2, 0, none⟩ (.bool neg)).setCell ⟨B2, 1, none⟩ (.slice p n c)).setCell ⟨B3, 0, none⟩ (.bool false)).setCell ⟨B3, 1, none⟩ (.slice q m d)) B3 (.bool false) (.slice q m d) t ∧
    ∀ r k xs, Rd .u64 W r k xs → Rd .u64 ((((W.setCell ⟨B2, 0, none⟩ (.bool neg)).setCell ⟨B2, 1, none⟩ (.slice p n c)).setCell ⟨B3, 0, none⟩ (.bool false)).setCell ⟨B3, 1, none⟩ (.slice q m d)) r k xs := by
  have e3 := (l3.setOther (C := B2) (i := 0) (.bool neg) hne.symm).setOther (C := B2) (i := 1) (.slice p n c) hne.symm
  have e2 := l2.set (.bool neg) (.slice p n c)
  exact ⟨(e2.setOther _ hne).setOther _ hne, e3.set _ _, fun r k xs h => (((h.box l2 _).box (l2.set0 _) _).box e3 _).box (e3.set0 _) _⟩

theorem quot_num {w0 w1 W : World} {a b : Bool} {p q p' q' : Option Addr} {n c m d n' c' m' d' : Nat} {xs ys qs rs : List Nat} {x y : Int} {L M : Nat} (hx : NumIs w0 a p n c xs x L) (hy : NumIs w1 b q m d ys y M)
    (r1 : Rd .u64 W p' n' qs) (r2 : n' ≤ c') (r3 : Cn BW qs) (r4 : Rd .u64 W q' m' rs) (r5 : m' ≤ d') (r6 : Cn BW rs) (r7 : dv BW xs = dv BW qs * dv BW ys + dv BW rs) (r8 : dv BW rs < dv BW ys) (h0 : a = true → dv BW rs = 0) :
    NumIs W ((a != b) && decide (0 < n')) p' n' c' qs (x / y) (max L M) ∧ NumIs W false q' m' d' rs (x % y) (max L M) := by
  obtain ⟨e1, e2⟩ := quot_says r7 r8 a b h0
  have sx := hx.small
  have sy := hy.small
  rw [hx.val, sv_natAbs] at sx
  rw [hy.val, sv_natAbs] at sy
  have g1 := Nat.pow_le_pow_right (n := BW) (by decide) (Nat.le_max_left L M)
  have g2 := Nat.pow_le_pow_right (n := BW) (by decide) (Nat.le_max_right L M)
  have hQ : dv BW qs ≤ dv BW xs := by
    have := Nat.le_mul_of_pos_right (dv BW qs) (show 0 < dv BW ys by omega)
    omega
  rw [hx.val, hy.val, ← e1, ← e2]
  refine ⟨NumIs.mk' r1 r2 r3 (by rw [r1.1]; simp) (by rw [← r1.1, sv_and _ _ r3]) (by rw [sv_natAbs]; omega), NumIs.mk' r4 r5 r6 (by simp) rfl (by omega)⟩

theorem rest_zero {a : Bool} {X Y Q R : Nat} (h0 : a = true → X % Y = 0) (h7 : X = Q * Y + R) (h8 : R < Y) : a = true → R = 0 := by
  intro ha
  have h1 := h0 ha
  rw [h7, Nat.mul_comm, Nat.mul_add_mod, Nat.mod_eq_of_lt h8] at h1
  exact h1

theorem rest_none {a : Bool} {xs ys qs rs : List Nat} {w : World} {q : Option Addr} {m : Nat} (h0 : a = true → dv BW xs % dv BW ys = 0) (hr : Rd .u64 w q m rs) (gr : Cn BW rs) (h7 : dv BW xs = dv BW qs * dv BW ys + dv BW rs) (h8 : dv BW rs < dv BW ys) : a = true → ¬ (0 : Int) < (m : Int) := by
  intro ha h
  have h1 := h0 ha
  rw [h7, Nat.mul_comm, Nat.mul_add_mod, Nat.mod_eq_of_lt h8] at h1
  have := gr.pos (b := BW) (by decide) (by intro e; have := hr.1; rw [e] at this; simp at this; omega)
  omega

set_option maxHeartbeats 2000000 in
theorem quotient_plain (a b : Bool) (p q : Option Addr) (n c m d : Nat) (xs ys : List Nat) (x y : Int) (L M : Nat) (w : World) (hx : NumIs w a p n c xs x L) (hy : NumIs w b q m d ys y M) (hL : L ≤ 1000000) (hM : M ≤ 1000000)
    (hD : ∀ W, Rd .u64 W p n xs → Rd .u64 W q m ys → Calls Tryd.prog 41 #[.slice p n c, .slice q m d] W (DivOut W xs ys)) (h0 : a = true → dv BW xs % dv BW ys = 0) :
    Calls Tryd.prog 24 #[.agg #[.bool a, .slice p n c], .agg #[.bool b, .slice q m d]] w (QuotOut w x y (max L M)) := by
  obtain ⟨b0, b1, b2, b3⟩ := four_boxes (W := w) (.bool a) (.slice p n c) (.bool b) (.slice q m d) (.bool false) (.slice none 0 0) (.bool false) (.slice none 0 0) 47
  have hb0 : Below w.heap.size w ((((w.alloc (.cells #[.bool a, .slice p n c] 47)).alloc (.cells #[.bool b, .slice q m d] 47)).alloc (.cells #[.bool false, .slice none 0 0] 47)).alloc (.cells #[.bool false, .slice none 0 0] 47)) :=
    ((((Below.refl _ w).alloc (Nat.le_refl _) _).alloc (by simp) _).alloc (by simp <;> omega) _).alloc (by simp <;> omega) _
  have hx1 := hx.below hb0
  have hy1 := hy.below hb0
  have e0 := b0.cell1
  have e1 := b1.cell1
  have HX := Lib.hid hx
  have HY := Lib.hid hy
  clear hx hy
  cases a
  · go_enter Tryd.func24, Tryd.ntmps24
    generalize hW4 : ((((w.alloc (.cells #[.bool false, .slice p n c] 47)).alloc (.cells #[.bool b, .slice q m d] 47)).alloc (.cells #[.bool false, .slice none 0 0] 47)).alloc (.cells #[.bool false, .slice none 0 0] 47)) = w4 at *
    go_wp2_with (first
      | (go_at_call 41; refine (hD _ hx1.rd hy1.rd).mono ?_; rintro e w1 ⟨p', n', c', qs, q', m', d', rs, rfl, r1, r2, r3, r4, r5, r6, r7, r8, hb1⟩; have k0 := (b0.below hb1 (by have := b3.lt; omega)); have k1 := (b1.below hb1 (by have := b3.lt; omega)); have k2 := (b2.below hb1 (by have := b3.lt; omega)); have k3 := (b3.below hb1 b3.lt); have f0 := k0.cell0; have f1 := k1.cell0; have hR0 : false = true → dv BW rs = 0 := (fun h => by cases h); clear h0)
      | (go_at_call 39; refine (signed_any _ _ _ _ _).mono ?_; rintro e w2 ⟨rfl, hb2⟩; have l2 := k2.below hb2 k2.lt; have l3 := k3.below hb2 k3.lt; have g0 := l2.cell0; have g1 := l2.cell1; have g2 := l3.cell0; have g3 := l3.cell1; have g4 := l2.frozen (i := 0); have g5 := l2.frozen (i := 1); have g6 := l3.frozen (i := 0); have g7 := l3.frozen (i := 1)))
    go_wp2
    obtain ⟨z2, z3, z4⟩ := quot_close (by omega) l2 l3 (b && decide (0 < n')) p' q' n' c' m' d'
    have y0 := z2.cell0
    have y1 := z2.cell1
    have y2 := z3.cell0
    have y3 := z3.cell1
    obtain ⟨n1, n2⟩ := quot_num HX.out HY.out (z4 _ _ _ (r1.below hb2)) r2 r3 (z4 _ _ _ (r4.below hb2)) r5 r6 r7 r8 (fun h => by first | exact hR0 trivial | exact hR0 h)
    refine bodyPost_ret (v := .tuple #[.agg #[.bool (b && decide (0 < n')), .slice p' n' c'], .agg #[.bool false, .slice q' m' d']]) (by simp [results, Tryd.results24, go_sem, y0, y1, y2, y3]) rfl ⟨_, p', n', c', qs, q', m', d', rs, rfl, ?_, n2, ?_⟩
    · first | exact n1 | (simp only [Bool.false_bne, Bool.true_bne] at n1; exact n1)
    · exact ((((((hb0.trans (hb1.mono hb0.size)).trans (hb2.mono (Nat.le_trans hb0.size hb1.size)))).setCell (by simp <;> omega) _).setCell (by simp <;> omega) _).setCell (by simp <;> omega) _).setCell (by simp <;> omega) _
  · go_enter Tryd.func24, Tryd.ntmps24
    generalize hW4 : ((((w.alloc (.cells #[.bool true, .slice p n c] 47)).alloc (.cells #[.bool b, .slice q m d] 47)).alloc (.cells #[.bool false, .slice none 0 0] 47)).alloc (.cells #[.bool false, .slice none 0 0] 47)) = w4 at *
    go_wp2_with (first
      | (go_at_call 41; refine (hD _ hx1.rd hy1.rd).mono ?_; rintro e w1 ⟨p', n', c', qs, q', m', d', rs, rfl, r1, r2, r3, r4, r5, r6, r7, r8, hb1⟩; have k0 := (b0.below hb1 (by have := b3.lt; omega)); have k1 := (b1.below hb1 (by have := b3.lt; omega)); have k2 := (b2.below hb1 (by have := b3.lt; omega)); have k3 := (b3.below hb1 b3.lt); have f0 := k0.cell0; have f1 := k1.cell0; have hm1 := rest_none h0 r4 r6 r7 r8 rfl; have hR0 : true = true → dv BW rs = 0 := rest_zero h0 r7 r8; clear h0)
      | (go_at_call 39; refine (signed_any _ _ _ _ _).mono ?_; rintro e w2 ⟨rfl, hb2⟩; have l2 := k2.below hb2 k2.lt; have l3 := k3.below hb2 k3.lt; have g0 := l2.cell0; have g1 := l2.cell1; have g2 := l3.cell0; have g3 := l3.cell1; have g4 := l2.frozen (i := 0); have g5 := l2.frozen (i := 1); have g6 := l3.frozen (i := 0); have g7 := l3.frozen (i := 1)))
    go_wp2
    obtain ⟨z2, z3, z4⟩ := quot_close (by omega) l2 l3 ((!b) && decide (0 < n')) p' q' n' c' m' d'
    have y0 := z2.cell0
    have y1 := z2.cell1
    have y2 := z3.cell0
    have y3 := z3.cell1
    obtain ⟨n1, n2⟩ := quot_num HX.out HY.out (z4 _ _ _ (r1.below hb2)) r2 r3 (z4 _ _ _ (r4.below hb2)) r5 r6 r7 r8 (fun h => by first | exact hR0 trivial | exact hR0 h)
    refine bodyPost_ret (v := .tuple #[.agg #[.bool ((!b) && decide (0 < n')), .slice p' n' c'], .agg #[.bool false, .slice q' m' d']]) (by simp [results, Tryd.results24, go_sem, y0, y1, y2, y3]) rfl ⟨_, p', n', c', qs, q', m', d', rs, rfl, ?_, n2, ?_⟩
    · first | exact n1 | (simp only [Bool.false_bne, Bool.true_bne] at n1; exact n1)
    · exact ((((((hb0.trans (hb1.mono hb0.size)).trans (hb2.mono (Nat.le_trans hb0.size hb1.size)))).setCell (by simp <;> omega) _).setCell (by simp <;> omega) _).setCell (by simp <;> omega) _).setCell (by simp <;> omega) _

theorem rest_pos {X Y Q R : Nat} (h0 : 0 < X % Y) (h7 : X = Q * Y + R) (h8 : R < Y) : 0 < R := by
  rw [h7, Nat.mul_comm, Nat.mul_add_mod, Nat.mod_eq_of_lt h8] at h0
  exact h0

theorem rest_some {w : World} {q : Option Addr} {m : Nat} {rs : List Nat} (h : 0 < dv BW rs) (hr : Rd .u64 w q m rs) : (0 : Int) < (m : Int) := by
  have : rs ≠ [] := by rintro rfl; simp [dv] at h
  have := List.length_pos_iff.2 this
  rw [hr.1] at this; omega

theorem len_le {w w' : World} {p q : Option Addr} {n m : Nat} {ys rs : List Nat} (hy : Rd .u64 w p n ys) (hr : Rd .u64 w' q m rs) (gr : Cn BW rs) (gy : Cn BW ys) (h : dv BW rs < dv BW ys) : m ≤ n := by
  rcases Nat.lt_or_ge n m with hlt | hge
  · have := Cn.lt_of_length (b := BW) (by decide) gy.1 gr (by rw [hy.1, hr.1]; exact hlt)
    omega
  · exact hge

theorem quo_len {w w' : World} {p q : Option Addr} {n m : Nat} {xs ys qs rs : List Nat} (hx : Rd .u64 w p n xs) (hq : Rd .u64 w' q m qs) (gx : Cn BW xs) (gq : Cn BW qs) (h7 : dv BW xs = dv BW qs * dv BW ys + dv BW rs) (h8 : dv BW rs < dv BW ys) : m ≤ n := by
  have h1 := dv_lt gx.1
  rw [hx.1] at h1
  have h2 : dv BW qs ≤ dv BW qs * dv BW ys := Nat.le_mul_of_pos_right (dv BW qs) (show 0 < dv BW ys by omega)
  rw [← hq.1]
  exact gq.length_le (by decide) (by omega)

theorem quot_num' {w0 w1 W : World} {b : Bool} {p q p' q' : Option Addr} {n c m d n' c' m' d' : Nat} {xs ys qs rs zs us : List Nat} {x y : Int} {L M : Nat} (hx : NumIs w0 true p n c xs x L) (hy : NumIs w1 b q m d ys y M)
    (r1 : Rd .u64 W p' n' zs) (r2 : n' ≤ c') (r3 : Cn BW zs) (r4 : Rd .u64 W q' m' us) (r5 : m' ≤ d') (r6 : Cn BW us) (r7 : dv BW xs = dv BW qs * dv BW ys + dv BW rs) (r8 : dv BW rs < dv BW ys) (h0 : 0 < dv BW rs)
    (hz : dv BW zs = dv BW qs + 1) (hu : dv BW us + dv BW rs = dv BW ys) :
    NumIs W ((true != b) && decide (0 < n')) p' n' c' zs (x / y) (max L M) ∧ NumIs W false q' m' d' us (x % y) (max L M) := by
  obtain ⟨e1, e2⟩ := quot_says' r7 r8 h0 b
  have sx := hx.small
  have sy := hy.small
  rw [hx.val, sv_natAbs] at sx
  rw [hy.val, sv_natAbs] at sy
  have g1 := Nat.pow_le_pow_right (n := BW) (by decide) (Nat.le_max_left L M)
  have g2 := Nat.pow_le_pow_right (n := BW) (by decide) (Nat.le_max_right L M)
  have hQ : dv BW qs ≤ dv BW qs * dv BW ys := Nat.le_mul_of_pos_right (dv BW qs) (show 0 < dv BW ys by omega)
  have hus : dv BW us = dv BW ys - dv BW rs := by omega
  rw [hx.val, hy.val, ← e1, ← e2]
  refine ⟨NumIs.mk' r1 r2 r3 (by rw [r1.1]; simp) (by rw [← r1.1, sv_and _ _ r3, hz]) (by rw [sv_natAbs]; omega), NumIs.mk' r4 r5 r6 (by simp) (by rw [hus]; rfl) (by omega)⟩

set_option maxHeartbeats 2000000 in
theorem quotient_neg (b : Bool) (p q : Option Addr) (n c m d : Nat) (xs ys : List Nat) (x y : Int) (L M : Nat) (w : World) (hx : NumIs w true p n c xs x L) (hy : NumIs w b q m d ys y M) (hL : L ≤ 1000000) (hM : M ≤ 1000000)
    (hD : ∀ W, Rd .u64 W p n xs → Rd .u64 W q m ys → Calls Tryd.prog 41 #[.slice p n c, .slice q m d] W (DivOut W xs ys)) (h0 : 0 < dv BW xs % dv BW ys) :
    Calls Tryd.prog 24 #[.agg #[.bool true, .slice p n c], .agg #[.bool b, .slice q m d]] w (QuotOut w x y (max L M)) := by
  obtain ⟨b0, b1, b2, b3⟩ := four_boxes (W := w) (.bool true) (.slice p n c) (.bool b) (.slice q m d) (.bool false) (.slice none 0 0) (.bool false) (.slice none 0 0) 47
  have hb0 : Below w.heap.size w ((((w.alloc (.cells #[.bool true, .slice p n c] 47)).alloc (.cells #[.bool b, .slice q m d] 47)).alloc (.cells #[.bool false, .slice none 0 0] 47)).alloc (.cells #[.bool false, .slice none 0 0] 47)) :=
    ((((Below.refl _ w).alloc (Nat.le_refl _) _).alloc (by simp) _).alloc (by simp <;> omega) _).alloc (by simp <;> omega) _
  have hx1 := hx.below hb0
  have hy1 := hy.below hb0
  have e0 := b0.cell1
  have e1 := b1.cell1
  have HX := Lib.hid hx
  have HY := Lib.hid hy
  clear hx hy
  go_enter Tryd.func24, Tryd.ntmps24
  generalize hW4 : ((((w.alloc (.cells #[.bool true, .slice p n c] 47)).alloc (.cells #[.bool b, .slice q m d] 47)).alloc (.cells #[.bool false, .slice none 0 0] 47)).alloc (.cells #[.bool false, .slice none 0 0] 47)) = w4 at *
  go_wp2_with (first
    | (go_at_call 41; refine (hD _ hx1.rd hy1.rd).mono ?_; rintro e w1 ⟨p', n', c', qs, q', m', d', rs, rfl, r1, r2, r3, r4, r5, r6, r7, r8, hb1⟩; have k0 := (b0.below hb1 (by have := b3.lt; omega)); have k1 := (b1.below hb1 (by have := b3.lt; omega)); have k2 := (b2.below hb1 (by have := b3.lt; omega)); have k3 := (b3.below hb1 b3.lt); have f0 := k0.cell0; have f1 := k1.cell0; have hR0 : 0 < dv BW rs := rest_pos h0 r7 r8; clear h0; have hm1 : (0 : Int) < (m' : Int) := rest_some hR0 r4; have hk1 := k1.cell1; have hy2 := hy1.below hb1; have hW1 : Below w1.heap.size w1 (w1.alloc (.cells #[.int .u64 (1 : Int)] 73)) := (Below.refl _ _).alloc (Nat.le_refl _) _; have hO := one_word w1 1)
    | (go_at_call 42; refine (addWords_any _ _ _ _ _ _ qs [1] _ (Nat.le_trans (quo_len hx1.rd r1 hx1.cn r3 r7 r8) (Nat.le_trans hx1.len (by omega))) (by omega) (r1.below hW1) hO r3.1 (by intro z hz; simp at hz; subst hz; decide)).mono ?_; rintro e w5 ⟨p5, n5, c5, zs5, rfl, s1, s2, s3, s4, hb5⟩; have k0' := (k0.alloc (.cells #[.int .u64 (1 : Int)] 73)).below hb5 (by have := k3.lt; simp; omega); have k1' := (k1.alloc (.cells #[.int .u64 (1 : Int)] 73)).below hb5 (by have := k3.lt; simp; omega); have k2' := (k2.alloc (.cells #[.int .u64 (1 : Int)] 73)).below hb5 (by have := k3.lt; simp; omega); have k3' := (k3.alloc (.cells #[.int .u64 (1 : Int)] 73)).below hb5 (by have := k3.lt; simp; omega); have hk1' := k1'.cell1; have hy3 := (hy2.below hW1).below hb5; have r4' := (r4.below hW1).below hb5)
    | (go_at_call 43; refine (subtractWords_any _ _ _ _ _ _ ys rs _ (Nat.le_trans hy3.len (by omega)) (len_le hy3.rd r4' r6 hy3.cn r8) hy3.rd r4' hy3.cn.1 r6.1 (by omega)).mono ?_; rintro e w6 ⟨p6, n6, c6, zs6, rfl, t1, t2, t3, t4, hb6⟩; have m0 := k0'.below hb6 k0'.lt; have m1 := k1'.below hb6 k1'.lt; have m2 := k2'.below hb6 k2'.lt; have m3 := k3'.below hb6 k3'.lt; have f0 := m0.cell0; have f1 := m1.cell0)
    | (go_at_call 39; refine (signed_any _ _ _ _ _).mono ?_; rintro e w2 ⟨rfl, hb2⟩; have l2 := m2.below hb2 m2.lt; have l3 := m3.below hb2 m3.lt; have g0 := l2.cell0; have g1 := l2.cell1; have g2 := l3.cell0; have g3 := l3.cell1; have g4 := l2.frozen (i := 0); have g5 := l2.frozen (i := 1); have g6 := l3.frozen (i := 0); have g7 := l3.frozen (i := 1)))
  go_wp2
  obtain ⟨z2, z3, z4⟩ := quot_close (by omega) l2 l3 ((!b) && decide (0 < n5)) p5 p6 n5 c5 n6 c6
  have y0 := z2.cell0
  have y1 := z2.cell1
  have y2 := z3.cell0
  have y3 := z3.cell1
  obtain ⟨n1, n2⟩ := quot_num' HX.out HY.out (z4 _ _ _ ((s1.below hb6).below hb2)) s2 s3 (z4 _ _ _ (t1.below hb2)) t2 t3 r7 r8 hR0 (by rw [s4]; simp [dv]) t4
  have h16 := hb1.size
  have h56 := hb5.size
  have h66 := hb6.size
  rw [World.size_alloc] at h56
  refine bodyPost_ret (v := .tuple #[.agg #[.bool ((!b) && decide (0 < n5)), .slice p5 n5 c5], .agg #[.bool false, .slice p6 n6 c6]]) (by simp [results, Tryd.results24, go_sem, y0, y1, y2, y3]) rfl ⟨_, p5, n5, c5, zs5, p6, n6, c6, zs6, rfl, ?_, n2, ?_⟩
  · first | exact n1 | (simp only [Bool.false_bne, Bool.true_bne] at n1; exact n1)
  · exact ((((((((((hb0.trans (hb1.mono hb0.size)).trans (hW1.mono (by have := hb0.size; omega))).trans (hb5.mono (by have := hb0.size; rw [World.size_alloc]; omega))).trans (hb6.mono (by have := hb0.size; omega))).trans (hb2.mono (by have := hb0.size; omega))))).setCell (by simp <;> omega) _).setCell (by simp <;> omega) _).setCell (by simp <;> omega) _).setCell (by simp <;> omega) _


theorem quotient_of (a b : Bool) (p q : Option Addr) (n c m d : Nat) (xs ys : List Nat) (x y : Int) (L M : Nat) (w : World) (hx : NumIs w a p n c xs x L) (hy : NumIs w b q m d ys y M) (hL : L ≤ 1000000) (hM : M ≤ 1000000)
    (hD : ∀ W, Rd .u64 W p n xs → Rd .u64 W q m ys → Calls Tryd.prog 41 #[.slice p n c, .slice q m d] W (DivOut W xs ys)) :
    Calls Tryd.prog 24 #[.agg #[.bool a, .slice p n c], .agg #[.bool b, .slice q m d]] w (QuotOut w x y (max L M)) := by
  by_cases h : a = true → dv BW xs % dv BW ys = 0
  · exact quotient_plain a b p q n c m d xs ys x y L M w hx hy hL hM hD h
  · cases a
    · exact (h (fun h => by cases h)).elim
    · exact quotient_neg b p q n c m d xs ys x y L M w hx hy hL hM hD (Nat.pos_of_ne_zero fun e => h fun _ => e)

/-- What Div hands back. -/
def divE (ok : Bool) (y : Int) : Int := if ok then (if y = 0 then 5 else 0) else 6
def divQ (ok : Bool) (x y : Int) : List UInt8 := if ok && decide (y ≠ 0) then Lib.itoa (x / y) else []
def divR (ok : Bool) (x y : Int) : List UInt8 := if ok && decide (y ≠ 0) then Lib.itoa (x % y) else []
def DivIs (w : World) (ok : Bool) (x y : Int) (e : Ending) (w' : World) : Prop := e = .returned (.tuple #[.string ⟨(divQ ok x y).toArray⟩, .string ⟨(divR ok x y).toArray⟩, .int .i64 (divE ok y)]) ∧ Below w.heap.size w w'

end Go.Proofs.YtimcbmgmngkagaaDoor
