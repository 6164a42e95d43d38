/-
  Lists of strings that are numbers; their sum.
-/
import Derived.Test.YtapfkinpdinbgaaDoorApi
namespace Go.Proofs.YtapfkinpdinbgaaDoor
open Go.RowKit

/-- A list of strings. -/
def RdS (w : World) (a : Option Addr) (l : List ByteArray) : Prop := ∀ i s, l[i]? = some s → ∃ b off, a = some ⟨b, off, none⟩ ∧ b < w.heap.size ∧ w.cell? ⟨b, off + i, none⟩ = some (.string s)

theorem RdS.below {w w' : World} {a : Option Addr} {l : List ByteArray} (h : RdS w a l) (hb : Below w.heap.size w w') : RdS w' a l := by
  intro i s hi
  obtain ⟨b, off, ha, hlt, hc⟩ := h i s hi
  exact ⟨b, off, ha, Nat.lt_of_lt_of_le hlt hb.size, (hb.cell (p := ⟨b, _, none⟩) hlt).trans hc⟩

/-- All are numbers. -/
def allB (l : List ByteArray) : Bool := l.all fun s => numB s.data.toList

theorem all_take {l : List ByteArray} {j : Nat} (hj : j < l.length) (h : allB (l.take j) = true) (h2 : numB l[j].data.toList = true) : allB (l.take (j + 1)) = true := by
  unfold allB at *
  rw [List.take_succ_eq_append_getElem hj, List.all_append, h]
  simpa using h2

theorem all_not {l : List ByteArray} {j : Nat} (hj : j < l.length) (h2 : numB l[j].data.toList = false) : allB l = false := by
  unfold allB
  rw [List.all_eq_false]
  exact ⟨l[j], List.getElem_mem _, by simp [h2]⟩

set_option maxHeartbeats 1000000 in
theorem areAll_any (a : Option Addr) (n c : Nat) (l : List ByteArray) (w : World) (hl : l.length = n) (hn : n ≤ 1000000000000) (hr : RdS w a l) (hs : ∀ s ∈ l, s.size ≤ maxLen) :
    Calls Tryd.prog 60 #[.slice a n c] w fun e w' => e = .returned (.bool (allB l)) ∧ Below w.heap.size w w' := by
  have HL := Lib.hid hl
  have HR := Lib.hid hr
  have HS := Lib.hid hs
  clear hl hr hs
  go_enter Tryd.func60, Tryd.ntmps60
  go_wp2
  go_loopw [4, 7] (fun v4 i wr => ∃ j : Nat, j ≤ n ∧ i = .int .i64 j ∧ Hid (allB (l.take j) = true) ∧ Below w.heap.size w wr) (fun _ i _ => n - (intOf i).toNat)
  case atStart => exact ⟨0, Nat.zero_le _, rfl, rfl, Below.refl _ _⟩
  case round =>
    obtain ⟨j, hj, rfl, hall, hb⟩ := hrel
    by_cases hlt : j < n
    · have hjl : j < l.length := by rw [HL.out]; exact hlt
      obtain ⟨b, off, rfl, hb1, hc⟩ := (HR.out.below hb) j _ (List.getElem?_eq_getElem hjl)
      have hsz := HS.out _ (List.getElem_mem hjl)
      generalize hx : l[j] = x at *
      have HX := Lib.hid hx
      clear hx
      cases hnb : numB x.data.toList
      · have HN := Lib.hid hnb
        clear hnb
        go_wp2_with (go_at_call 13; refine (is_any x _ hsz).mono ?_; rintro e w1 ⟨rfl, hb1⟩; rw [HN.out])
        go_ret
        refine ⟨?_, hb.trans (hb1.mono hb.size)⟩
        rw [all_not hjl (by rw [HX.out]; exact HN.out)]
        rfl
      · have HN := Lib.hid hnb
        clear hnb
        go_wp2_with (go_at_call 13; refine (is_any x _ hsz).mono ?_; rintro e w1 ⟨rfl, hb1⟩; rw [HN.out])
        go_roundw
        case rel => exact ⟨j + 1, by omega, by go_num, all_take hjl hall.out (by rw [HX.out]; exact HN.out), hb.trans (hb1.mono hb.size)⟩
        case measure => simp [intOf]; omega
    · obtain rfl : j = n := by omega
      go_wp2
      go_ret
      have := hall.out
      rw [List.take_of_length_le (by rw [HL.out]; exact Nat.le_refl _)] at this
      exact ⟨by rw [this]; rfl, hb⟩


theorem Tryd.info79 : (Tryd.prog.info? 79).map (fun i => (i.zero, i.size, i.bytes)) = some (some (.agg #[.bool false, .slice none 0 0]), 2, 32) := by kernel_rfl

theorem mkNums (n : Nat) (hn : n ≤ 1000000) (w : World) : (Instr.makeSlice 93 (.int .i64 (n : Int)) (.int .i64 (n : Int))).run Tryd.prog w = .ok (.slice (some ⟨w.heap.size, 0, none⟩) n n) (w.alloc (.cells (Go.madeCells #[.bool false, .slice none 0 0] (n * 2)) 79)) := by
  obtain ⟨i, hi, hz, hs, hb⟩ := info_parts Tryd.info79
  have hr := run_make (P := Tryd.prog) w 93 79 i _ Tryd.underlying93 hi hz .i64 .i64 n n (by omega) (Int.le_refl _) (by rw [hb]; omega) (by omega)
  simp only [Int.toNat_natCast, hs] at hr
  exact hr

theorem madeNums_at (n i : Nat) (v : Value) (h : (Go.madeCells #[.bool false, .slice none 0 0] n)[i]? = some v) (x : Int) : v ≠ .int .u64 x := by
  intro e
  subst e
  have hlt : i < (Go.madeCells #[Value.bool false, .slice none 0 0] n).size := (Array.getElem?_eq_some_iff.1 h).1
  simp only [Go.madeCells] at h hlt
  simp at hlt
  simp [hlt] at h
  rcases Nat.mod_two_eq_zero_or_one i with e | e <;> rw [e] at h <;> simp at h

/-- What is done of a row of numbers. -/
def Part (w : World) (B n : Nat) (zs : List Int) (L : Nat) : Prop :=
  ∃ cs : Array Value, w.heap[B]? = some (.cells cs 79 (0, 0)) ∧ cs.size = n * 2 ∧ (∀ (i : Nat) (v : Value), cs[i]? = some v → ∀ x : Int, v ≠ Value.int .u64 x) ∧
    ∀ i z, zs[i]? = some z → ∃ neg p m c xs, cs[i * 2]? = some (.bool neg) ∧ cs[i * 2 + 1]? = some (.slice p m c) ∧ NumIs w neg p m c xs z L

theorem Part.nums {w : World} {B n : Nat} {zs : List Int} {L : Nat} (h : Part w B n zs L) : Nums w (some ⟨B, 0, none⟩) zs L := by
  obtain ⟨cs, hh, hn, _, hz⟩ := h
  intro i z hi
  obtain ⟨neg, p, m, c, xs, h0, h1, hx⟩ := hz i z hi
  refine ⟨B, 0, neg, p, m, c, xs, rfl, (Array.getElem?_eq_some_iff.1 hh).1, ?_, ?_, hx⟩
  · simp [World.cell?, hh, h0]
  · simp [World.cell?, hh, h1]

theorem Part.below {w w' : World} {B n : Nat} {zs : List Int} {L : Nat} (h : Part w B n zs L) (hb : Below w.heap.size w w') : Part w' B n zs L := by
  obtain ⟨cs, hh, hn, hv, hz⟩ := h
  refine ⟨cs, (hb.block B (Array.getElem?_eq_some_iff.1 hh).1).trans hh, hn, hv, fun i z hi => ?_⟩
  obtain ⟨neg, p, m, c, xs, h0, h1, hx⟩ := hz i z hi
  exact ⟨neg, p, m, c, xs, h0, h1, hx.below hb⟩

theorem NumIs.set {w : World} {neg : Bool} {p : Option Addr} {n c : Nat} {xs : List Nat} {z : Int} {L : Nat} (h : NumIs w neg p n c xs z L) {B o : Nat} {u : Value} (hu : w.cell? ⟨B, o, none⟩ = some u) (hne : ∀ x, u ≠ .int .u64 x) (v : Value) : NumIs (w.setCell ⟨B, o, none⟩ v) neg p n c xs z L :=
  { h with rd := h.rd.setOther hu hne v }

theorem Part.put {w : World} {B n : Nat} {zs : List Int} {L : Nat} (h : Part w B n zs L) {neg : Bool} {p : Option Addr} {m c : Nat} {xs : List Nat} {z : Int} (hx : NumIs w neg p m c xs z L) (hlt : zs.length < n) :
    Part ((w.setCell ⟨B, zs.length * 2, none⟩ (.bool neg)).setCell ⟨B, zs.length * 2 + 1, none⟩ (.slice p m c)) B n (zs ++ [z]) L ∧
    (∃ u v, w.cell? ⟨B, zs.length * 2, none⟩ = some u ∧ w.cell? ⟨B, zs.length * 2 + 1, none⟩ = some v) ∧ (∀ i, w.frozen? ⟨B, i, none⟩ = false) := by
  obtain ⟨cs, hh, hn, hv, hz⟩ := h
  have hc : ∀ i, w.cell? ⟨B, i, none⟩ = cs[i]? := fun i => by simp [World.cell?, hh]
  have l0 : zs.length * 2 < cs.size := by omega
  have l1 : zs.length * 2 + 1 < cs.size := by omega
  have u0 : w.cell? ⟨B, zs.length * 2, none⟩ = some cs[zs.length * 2] := by rw [hc, Array.getElem?_eq_getElem l0]
  have u1 : w.cell? ⟨B, zs.length * 2 + 1, none⟩ = some cs[zs.length * 2 + 1] := by rw [hc, Array.getElem?_eq_getElem l1]
  have u1' : (w.setCell ⟨B, zs.length * 2, none⟩ (.bool neg)).cell? ⟨B, zs.length * 2 + 1, none⟩ = some cs[zs.length * 2 + 1] := (World.cell?_setCell_other _ _ _ _ (by simp)).trans u1
  have n0 := hv _ _ (Array.getElem?_eq_getElem l0)
  have n1 := hv _ _ (Array.getElem?_eq_getElem l1)
  have hset : ∀ {q : Bool} {r : Option Addr} {k d : Nat} {ys : List Nat} {y : Int}, NumIs w q r k d ys y L → NumIs ((w.setCell ⟨B, zs.length * 2, none⟩ (.bool neg)).setCell ⟨B, zs.length * 2 + 1, none⟩ (.slice p m c)) q r k d ys y L := fun g => (g.set u0 n0 _).set u1' n1 _
  refine ⟨⟨(cs.setIfInBounds (zs.length * 2) (.bool neg)).setIfInBounds (zs.length * 2 + 1) (.slice p m c), ?_, by simp [hn], ?_, ?_⟩, ⟨_, _, u0, u1⟩, fun i => by simp [World.frozen?, hh]⟩
  · rw [Lib.heap_setCell_same (Lib.heap_setCell_same hh _)]
  · intro i v hi x
    rw [Array.getElem?_setIfInBounds] at hi
    split at hi
    · split at hi
      · cases hi; simp
      · cases hi
    · rw [Array.getElem?_setIfInBounds] at hi
      split at hi
      · first
          | (cases hi; simp; done)
          | (split at hi <;> cases hi; simp)
      · exact hv _ _ hi x
  · intro i z' hi
    rcases Nat.lt_or_ge i zs.length with hlt' | hge
    · rw [List.getElem?_append_left hlt'] at hi
      obtain ⟨neg', p', m', c', xs', h0, h1, hx'⟩ := hz i z' hi
      refine ⟨neg', p', m', c', xs', ?_, ?_, hset hx'⟩
      · rw [Array.getElem?_setIfInBounds_ne (by omega), Array.getElem?_setIfInBounds_ne (by omega)]; exact h0
      · rw [Array.getElem?_setIfInBounds_ne (by omega), Array.getElem?_setIfInBounds_ne (by omega)]; exact h1
    · obtain rfl : i = zs.length := by
        have := (List.getElem?_eq_some_iff.1 hi).1
        simp at this; omega
      simp at hi
      subst hi
      refine ⟨neg, p, m, c, xs, ?_, ?_, hset hx⟩
      · rw [Array.getElem?_setIfInBounds_ne (by omega), Array.getElem?_setIfInBounds_self_of_lt l0]
      · rw [Array.getElem?_setIfInBounds_self_of_lt (by simp; omega)]


def vals (l : List ByteArray) : List Int := l.map fun s => strV s.data.toList

theorem allB_at {l : List ByteArray} (h : allB l = true) {j : Nat} (hj : j < l.length) : numB l[j].data.toList = true := (List.all_eq_true.1 h) _ (List.getElem_mem hj)

set_option maxHeartbeats 1000000 in
theorem readAll_any (a : Option Addr) (n c : Nat) (l : List ByteArray) (w : World) (hl : l.length = n) (hn : n ≤ 1000000) (hr : RdS w a l) (hs : ∀ s ∈ l, s.size ≤ maxLen) (hall : allB l = true) :
    Calls Tryd.prog 61 #[.slice a n c] w fun e w' => ∃ B, e = .returned (.slice (some ⟨B, 0, none⟩) n n) ∧ Nums w' (some ⟨B, 0, none⟩) (vals l) 223 ∧ Below w.heap.size w w' := by
  have hmk := mkNums n hn w
  have hP : Part (w.alloc (.cells (Go.madeCells #[.bool false, .slice none 0 0] (n * 2)) 79)) w.heap.size n [] 223 :=
    ⟨_, World.alloc_heap_new w _, Go.size_madeCells _ _, fun i v h x => madeNums_at _ _ _ h x, fun i z h => by simp at h⟩
  have hB0 : Below w.heap.size w (w.alloc (.cells (Go.madeCells #[.bool false, .slice none 0 0] (n * 2)) 79)) := (Below.refl _ w).alloc (Nat.le_refl _) _
  have y0 : w.heap.size < (w.alloc (.cells (Go.madeCells #[.bool false, .slice none 0 0] (n * 2)) 79)).heap.size := by simp
  have HL := Lib.hid hl
  have HR := Lib.hid hr
  have HS := Lib.hid hs
  have HA := Lib.hid hall
  clear hl hr hs hall
  go_enter Tryd.func61, Tryd.ntmps61
  go_wp2
  go_loopw [4, 5, 11] (fun v4 v5 i wr => ∃ j : Nat, j ≤ n ∧ i = .int .i64 j ∧ Hid (Part wr w.heap.size n (vals (l.take j)) 223) ∧ w.heap.size < wr.heap.size ∧ Below w.heap.size w wr) (fun _ _ i _ => n - (intOf i).toNat)
  case atStart => exact ⟨0, Nat.zero_le _, rfl, hP, y0, hB0⟩
  case round =>
    obtain ⟨j, hj, rfl, hp, hlt0, hb⟩ := hrel
    by_cases hlt : j < n
    · have hjl : j < l.length := by rw [HL.out]; exact hlt
      have hlen : (vals (l.take j)).length = j := by simp [vals]; omega
      obtain ⟨b, off, rfl, hb1, hc⟩ := (HR.out.below hb) j _ (List.getElem?_eq_getElem hjl)
      have hsz := HS.out _ (List.getElem_mem hjl)
      have hnb := allB_at HA.out hjl
      have hvs : vals (l.take (j + 1)) = vals (l.take j) ++ [strV l[j].data.toList] := by unfold vals; rw [List.take_succ_eq_append_getElem hjl, List.map_append]; rfl
      generalize l[j] = x at *
      have HN := Lib.hid hnb
      have HV := Lib.hid hvs
      clear hnb hvs
      go_wp2_with (go_at_call 59; refine (read_any x _ hsz HN.out).mono ?_; rintro e w1 ⟨neg, p, m, d, xs, rfl, hx, hb2⟩; obtain ⟨q1, ⟨u, v, q2, q3⟩, q4⟩ := (hp.out.below hb2).put hx (by rw [hlen]; exact hlt); rw [hlen] at q1 q2 q3; have q5 := q4 (j * 2); have q6 := q4 (j * 2 + 1))
      go_roundw
      case rel => exact ⟨j + 1, by omega, by go_num, (by rw [HV.out]; exact q1), by simp; exact Nat.lt_of_lt_of_le hlt0 hb2.size, ((hb.trans (hb2.mono hb.size)).setCell (by simp) _).setCell (by simp) _⟩
      case measure => simp [intOf]; omega
    · obtain rfl : j = n := by omega
      go_wp2
      go_ret
      have := hp.out.nums
      rw [List.take_of_length_le (by rw [HL.out]; exact Nat.le_refl _)] at this
      exact ⟨_, rfl, this, hb⟩


/-- What Sum hands back. -/
def sumErr (l : List ByteArray) : Int := if allB l then (if 1000 < l.length then 1 else outE (sumZ (vals l))) else 6
def sumStr (l : List ByteArray) : List UInt8 := if allB l then (if 1000 < l.length then [] else outS (sumZ (vals l))) else []

set_option maxHeartbeats 1000000 in
theorem sumList_any (a : Option Addr) (n c : Nat) (l : List ByteArray) (w : World) (hl : l.length = n) (hn : n ≤ 1000000000000) (hr : RdS w a l) (hs : ∀ s ∈ l, s.size ≤ maxLen) (htab : Tab w) :
    Calls Tryd.prog 34 #[.slice a n c] w fun e w' => e = .returned (.tuple #[.string ⟨(sumStr l).toArray⟩, .int .i64 (sumErr l)]) ∧ Below w.heap.size w w' := by
  by_cases hall : allB l = true
  · by_cases h1000 : 1000 < n
    · have h1 : sumStr l = [] := by unfold sumStr; rw [if_pos hall, if_pos (by omega)]
      have h2 : sumErr l = 1 := by unfold sumErr; rw [if_pos hall, if_pos (by omega)]
      rw [h1, h2]
      have hi : (1000 : Int) < (n : Int) := by omega
      have HA := Lib.hid hall
      clear hall h1 h2 h1000
      go_enter Tryd.func34, Tryd.ntmps34
      go_wp2_with (go_at_call 60; refine (areAll_any _ _ _ l _ hl hn hr hs).mono ?_; rintro e w1 ⟨rfl, hb1⟩; rw [HA.out])
      go_ret2
      exact ⟨rfl, hb1⟩
    · have h1 : sumStr l = outS (sumZ (vals l)) := by unfold sumStr; rw [if_pos hall, if_neg (by omega)]
      have h2 : sumErr l = outE (sumZ (vals l)) := by unfold sumErr; rw [if_pos hall, if_neg (by omega)]
      rw [h1, h2]
      have hi : ¬ (1000 : Int) < (n : Int) := by omega
      have hvl : (vals l).length = n := by simp [vals, hl]
      have HA := Lib.hid hall
      have HV := Lib.hid hvl
      have hn' : n ≤ 1000 := by omega
      clear hall h1 h2 h1000 hvl
      go_enter Tryd.func34, Tryd.ntmps34
      go_wp2_with (first
        | (go_at_call 60; refine (areAll_any _ _ _ l _ hl hn hr hs).mono ?_; rintro e w1 ⟨rfl, hb1⟩; rw [HA.out])
        | (go_at_call 61; refine (readAll_any _ _ _ l _ hl (by omega) (hr.below hb1) hs HA.out).mono ?_; rintro e w2 ⟨B, rfl, hz, hb2⟩; have hbX := hb1.trans (hb2.mono hb1.size))
        | (go_at_call 49; refine (sum_any _ _ _ (vals l) 223 _ HV.out (by omega) (by omega) hz).mono ?_; rintro e w3 ⟨neg, p, m, d, xs, rfl, hx, hb3⟩; have hbY := hbX.trans (hb3.mono hbX.size))
        | (go_at_call 50; refine (written_any _ _ _ _ _ _ _ _ hx (by omega) (htab.below hbY)).mono ?_; rintro e w4 ⟨rfl, hb4⟩))
      go_ret2
      exact ⟨rfl, hbY.trans (hb4.mono hbY.size)⟩
  · have h1 : sumStr l = [] := by unfold sumStr; rw [if_neg hall]
    have h2 : sumErr l = 6 := by unfold sumErr; rw [if_neg hall]
    rw [h1, h2]
    have hall' : allB l = false := by simpa using hall
    have HA := Lib.hid hall'
    clear hall hall' h1 h2
    go_enter Tryd.func34, Tryd.ntmps34
    go_wp2_with (go_at_call 60; refine (areAll_any _ _ _ l _ hl hn hr hs).mono ?_; rintro e w1 ⟨rfl, hb1⟩; rw [HA.out])
    go_ret2
    exact ⟨rfl, hb1⟩

end Go.Proofs.YtapfkinpdinbgaaDoor
