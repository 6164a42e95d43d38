/-
  A region that draws its order, by one relation that every order keeps: a goal for each operation, not for each order; The order of two numbers; Lists of strings that are numbers; their sum; Quotient and remainder of words; the long division as a premise; Div of two strings; the division of their words as a premise; What the calls of the laws hand back, for lists of bytes.
-/
import Derived.Deep.RegionHeld3
import Derived.Test.YtimcbmgmngkagaaGreatDoorK1
import Derived.Test.YtimcbmgmngkagaaGreatDoorK2
import Derived.Test.YtimcbmgmngkagaaGreatDoorK3
import Derived.Test.YtimcbmgmngkagaaGreatDoorK4
import Derived.Test.YtimcbmgmngkagaaGreatDoorK5
import Derived.Test.YtimcbmgmngkagaaGreatDoorK6
import Derived.Test.YtimcbmgmngkagaaGreatDoorK7
import Derived.Test.YtimcbmgmngkagaaGreatDoorK8
namespace Go.Proofs.YtimcbmgmngkagaaGreatDoor
open Go.RowKit
variable {P : Program} {Q : Exit → Act → World → Prop}

theorem countP_strict {p q : Nat → Bool} : ∀ (l : List Nat) (x : Nat), (∀ y, q y = true → p y = true) → x ∈ l → p x = true → q x = false → l.countP q + 1 ≤ l.countP p
  | [], x, _, hx, _, _ => by cases hx
  | y :: l, x, hpq, hx, hp, hq => by
    rw [List.countP_cons, List.countP_cons]
    rcases List.mem_cons.1 hx with rfl | hx
    · have := List.countP_mono_left (l := l) (fun y _ h => hpq y h)
      simp [hp, hq]; omega
    · have := countP_strict l x hpq hx hp hq
      by_cases h1 : q y = true
      · simp [h1, hpq y h1]; omega
      · simp [h1]; split <;> omega

def depsB (l : List Oper) (L : Nat → Bool) (i : Nat) : Bool := ((l[i]?).map fun o => o.after.all fun e => !Region.binds .any e || L e.on).getD false
def earlierB (l : List Oper) : Bool := (List.range l.length).all fun i => ((l[i]?).map fun o => o.after.all fun e => !Region.binds .any e || decide (e.on < i)).getD false

theorem depsB_all {l : List Oper} (hE : earlierB l = true) {L : Nat → Bool} {i : Nat} (hi : i < l.length) (h : ∀ j, j < i → L j = true) : depsB l L i = true := by
  have h1 := List.all_eq_true.1 hE i (List.mem_range.2 hi)
  unfold depsB
  rw [List.getElem?_eq_getElem hi] at h1 ⊢
  simp only [Option.map_some, Option.getD_some, Array.all_eq_true'] at h1 ⊢
  intro e he
  have := h1 e he
  simp only [Bool.or_eq_true, decide_eq_true_eq] at this ⊢
  rcases this with h2 | h2
  · exact .inl h2
  · exact .inr (h _ h2)


theorem all_listed {l : List Oper} (hE : earlierB l = true) {L : Nat → Bool} (h : ∀ i, i < l.length → L i = false → depsB l L i = false) : ∀ i, i < l.length → L i = true := by
  intro i
  induction i using Nat.strongRecOn with
  | _ i ih =>
    intro hi
    cases hL : L i
    · have := h i hi hL
      rw [depsB_all hE hi (fun j hj => ih j hj (by omega))] at this
      cases this
    · rfl

theorem mem_ready_iff {l : List Oper} {listed : Array Bool} {L : Nat → Bool} (hs : listed.size = l.length) (hL : ∀ i, listed.getD i false = L i) (i : Nat) :
    i ∈ Region.ready .any l.toArray listed ↔ i < l.length ∧ L i = false ∧ depsB l L i = true := by
  unfold Region.ready depsB
  simp only [List.mem_filter, List.mem_range, List.size_toArray, Bool.and_eq_true, Bool.not_eq_true', List.getElem?_toArray, hL]
  constructor
  · rintro ⟨h1, h2, h3⟩
    refine ⟨h1, ?_, h3⟩
    rw [← hL, ← h2]
    simp [Array.getD, hs, h1]
  · rintro ⟨h1, h2, h3⟩
    refine ⟨h1, ?_, h3⟩
    rw [← h2, ← hL]
    simp [Array.getD, hs, h1]

theorem wpAny_inv {l : List Oper} (hE : earlierB l = true) (I : (Nat → Bool) → Act → World → Prop)
    (step : ∀ L i a w, I L a w → i < l.length → L i = false → depsB l L i = true → wpOp P l.toArray Q i (I (fun j => L j || j == i)) a w)
    (done : ∀ L a w, (∀ i, i < l.length → L i = true) → I L a w → Q .normal a w) :
    ∀ (f : Nat) (listed : Array Bool) (L : Nat → Bool) (a : Act) (w : World), listed.size = l.length → (∀ i, listed.getD i false = L i) → (List.range l.length).countP (fun i => !L i) ≤ f → I L a w → wpAny P .any l.toArray Q f listed a w := by
  intro f
  induction f with
  | zero =>
    intro listed L a w hs hL hc hI
    have hall : ∀ i, i < l.length → L i = true := by
      intro i hi
      have := List.countP_eq_zero.1 (Nat.le_zero.1 hc) i (List.mem_range.2 hi)
      simpa using this
    refine ⟨List.eq_nil_iff_forall_not_mem.2 fun i hi => ?_, done L a w hall hI⟩
    obtain ⟨h1, h2, _⟩ := (mem_ready_iff hs hL i).1 hi
    rw [hall i h1] at h2; cases h2
  | succ f ih =>
    intro listed L a w hs hL hc hI
    refine ⟨fun hr => done L a w (all_listed hE fun i hi h => ?_) hI, fun i hi => ?_⟩
    · cases hd : depsB l L i
      · rfl
      · have := (mem_ready_iff hs hL i).2 ⟨hi, h, hd⟩
        rw [hr] at this; cases this
    · obtain ⟨h1, h2, h3⟩ := (mem_ready_iff hs hL i).1 hi
      have := step L i a w hI h1 h2 h3
      refine wpOp_mono (fun a w h => ih _ (fun j => L j || j == i) a w (by simp [hs]) (fun j => ?_) ?_ h) this
      · rw [← hL]
        simp only [Array.getD_eq_getD_getElem?, Array.getElem?_setIfInBounds]
        by_cases e : i = j
        · subst e; simp [hs, h1]
        · have : (j == i) = false := by simp; omega
          simp [e, this]
      · have := countP_strict (p := fun j => !L j) (q := fun j => !(L j || j == i)) (List.range l.length) i (fun y hy => by simp at hy ⊢; exact hy.1) (List.mem_range.2 h1) (by simp [h2]) (by simp)
        omega

theorem wp_region_inv {id : Nat} {l : List Oper} {a : Act} {w : World} (hm : P.follows .mixedOrders = true) (hE : earlierB l = true) (I : (Nat → Bool) → Act → World → Prop) (h0 : I (fun _ => false) a w.drew)
    (step : ∀ L i a w, I L a w → i < l.length → L i = false → depsB l L i = true → wpOp P l.toArray Q i (I (fun j => L j || j == i)) a w)
    (done : ∀ L a w, (∀ i, i < l.length → L i = true) → I L a w → Q .normal a w) : (Code.region id l.toArray true).wp P Q a w := by
  refine wp_region_any hm (wpAny_inv hE I step done _ _ (fun _ => false) _ _ (by simp) (fun i => ?_) ?_ h0)
  · exact getD_replicate_false _ _
  · refine Nat.le_trans (List.countP_le_length) ?_
    simp

theorem wp_post {o : Oper} {a : Act} {w : World} {K : Act → World → Prop} {Q Q' : Exit → Act → World → Prop} (hq : ∀ e a w, e ≠ .normal → Q e a w → Q' e a w) (hh : o.wp P a w K Q) : o.wp P a w K Q' := by
  have hL : LetsOut Q → LetsOut Q' := fun ⟨b, v, h⟩ => ⟨b, v, hq _ _ _ (by simp) h⟩
  unfold Oper.wp at *
  generalize (execOp a.eval o).run P w = r at *
  cases r with
  | ok r w' =>
    cases r <;> simp only [Oper.upon] at hh ⊢ <;> try exact hh
    case enter f args =>
      exact Calls.mono hh fun e w'' he => by
        cases e with
        | returned v => exact he
        | panicked c => exact hq _ _ _ (by simp) he
        | outgrown => exact hL he
  | halt x w' =>
    cases x <;> simp only [Oper.upon] at hh ⊢
    case panic v => exact hq _ _ _ (by simp) hh

/-- One operation. -/
theorem wpOp_list {ops : Array Oper} {i : Nat} {o : Oper} {K : Act → World → Prop} {a : Act} {w : World} (ho : ops[i]? = some o) (h : wpList P ops (fun e a w => (e = .normal → K a w) ∧ (e ≠ .normal → Q e a w)) [o] a w) : wpOp P ops Q i K a w := by
  unfold wpOp
  unfold wpList at h
  simp only [ho]
  split at h
  · rename_i hw
    rw [if_pos hw]
    rcases h with h | ⟨h1, b, v, h2⟩
    · left
      refine Oper.wp_mono (fun a w h => ?_) (wp_post (fun e a w he h => h.2 he) h)
      exact h.1 rfl
    · exact .inr ⟨h1, b, v, h2.2 (by simp)⟩
  · rename_i hw
    rw [if_neg hw]
    exact h.1 rfl

end Go.Proofs.YtimcbmgmngkagaaGreatDoor

namespace Go.Proofs.YtimcbmgmngkagaaGreatDoor
open Go.RowKit
attribute [local go_sem] Oper.semAt_some

theorem order_facts {w : World} {a : Bool} {p : Option Addr} {n c : Nat} {xs : List Nat} {x : Int} {L : Nat} (hx : NumIs w a p n c xs x L) : (n = 0 → dv BW xs = 0) ∧ (0 < n → 0 < dv BW xs) := by
  refine ⟨fun h => ?_, fun h => ?_⟩
  · rw [List.length_eq_zero_iff.1 (hx.rd.1.trans h)]; rfl
  · exact hx.cn.pos (by decide) (by intro e; have := hx.rd.1; rw [e] at this; simp at this; omega)

end Go.Proofs.YtimcbmgmngkagaaGreatDoor

namespace Go.Proofs.YtimcbmgmngkagaaGreatDoor
open Go.RowKit

/-- A list of strings. -/
def RdS (w : World) (a : Option Addr) (l : List ByteArray) : Prop := ∀ i s, l[i]? = some s → ∃ b off, a = some ⟨b, off, none⟩ ∧ b < w.heap.size ∧ w.cell? ⟨b, off + i, none⟩ = some (.string s)

theorem RdS.below {w w' : World} {a : Option Addr} {l : List ByteArray} (h : RdS w a l) (hb : Below w.heap.size w w') : RdS w' a l := by
  intro i s hi
  obtain ⟨b, off, ha, hlt, hc⟩ := h i s hi
  exact ⟨b, off, ha, Nat.lt_of_lt_of_le hlt hb.size, (hb.cell (p := ⟨b, _, none⟩) hlt).trans hc⟩

/-- All are numbers. -/
def allB (l : List ByteArray) : Bool := l.all fun s => numB s.data.toList

theorem all_take {l : List ByteArray} {j : Nat} (hj : j < l.length) (h : allB (l.take j) = true) (h2 : numB l[j].data.toList = true) : allB (l.take (j + 1)) = true := by
  unfold allB at *
  rw [List.take_succ_eq_append_getElem hj, List.all_append, h]
  simpa using h2

theorem all_not {l : List ByteArray} {j : Nat} (hj : j < l.length) (h2 : numB l[j].data.toList = false) : allB l = false := by
  unfold allB
  rw [List.all_eq_false]
  exact ⟨l[j], List.getElem_mem _, by simp [h2]⟩

set_option maxHeartbeats 1000000 in
theorem areAll_any (a : Option Addr) (n c : Nat) (l : List ByteArray) (w : World) (hl : l.length = n) (hn : n ≤ 1000000000000) (hr : RdS w a l) (hs : ∀ s ∈ l, s.size ≤ maxLen) :
    Calls Tryz.prog 119 #[.slice a n c] w fun e w' => e = .returned (.bool (allB l)) ∧ Below w.heap.size w w' := by
  have HL := Lib.hid hl
  have HR := Lib.hid hr
  have HS := Lib.hid hs
  clear hl hr hs
  go_enter Tryz.func119, Tryz.ntmps119
  go_wp2
  go_loopw [4, 7] (fun v4 i wr => ∃ j : Nat, j ≤ n ∧ i = .int .i64 j ∧ Hid (allB (l.take j) = true) ∧ Below w.heap.size w wr) (fun _ i _ => n - (intOf i).toNat)
  case atStart => exact ⟨0, Nat.zero_le _, rfl, rfl, Below.refl _ _⟩
  case round =>
    obtain ⟨j, hj, rfl, hall, hb⟩ := hrel
    by_cases hlt : j < n
    · have hjl : j < l.length := by rw [HL.out]; exact hlt
      obtain ⟨b, off, rfl, hb1, hc⟩ := (HR.out.below hb) j _ (List.getElem?_eq_getElem hjl)
      have hsz := HS.out _ (List.getElem_mem hjl)
      generalize hx : l[j] = x at *
      have HX := Lib.hid hx
      clear hx
      cases hnb : numB x.data.toList
      · have HN := Lib.hid hnb
        clear hnb
        go_wp2_with (go_at_call 80; refine (is_any x _ hsz).mono ?_; rintro e w1 ⟨rfl, hb1⟩; rw [HN.out])
        go_ret
        refine ⟨?_, hb.trans (hb1.mono hb.size)⟩
        rw [all_not hjl (by rw [HX.out]; exact HN.out)]
        rfl
      · have HN := Lib.hid hnb
        clear hnb
        go_wp2_with (go_at_call 80; refine (is_any x _ hsz).mono ?_; rintro e w1 ⟨rfl, hb1⟩; rw [HN.out])
        go_roundw
        case rel => exact ⟨j + 1, by omega, by go_num, all_take hjl hall.out (by rw [HX.out]; exact HN.out), hb.trans (hb1.mono hb.size)⟩
        case measure => simp [intOf]; omega
    · obtain rfl : j = n := by omega
      go_wp2
      go_ret
      have := hall.out
      rw [List.take_of_length_le (by rw [HL.out]; exact Nat.le_refl _)] at this
      exact ⟨by rw [this]; rfl, hb⟩


theorem Tryz.info79 : (Tryz.prog.info? 78).map (fun i => (i.zero, i.size, i.bytes)) = some (some (.agg #[.bool false, .slice none 0 0]), 2, 32) := by kernel_rfl

theorem mkNums (n : Nat) (hn : n ≤ 1000000) (w : World) : (Instr.makeSlice 138 (.int .i64 (n : Int)) (.int .i64 (n : Int))).run Tryz.prog w = .ok (.slice (some ⟨w.heap.size, 0, none⟩) n n) (w.alloc (.cells (Go.madeCells #[.bool false, .slice none 0 0] (n * 2)) 78)) := by
  obtain ⟨i, hi, hz, hs, hb⟩ := info_parts Tryz.info79
  have hr := run_make (P := Tryz.prog) w 138 78 i _ Tryz.underlying138 hi hz .i64 .i64 n n (by omega) (Int.le_refl _) (by rw [hb]; omega) (by omega)
  simp only [Int.toNat_natCast, hs] at hr
  exact hr

theorem madeNums_at (n i : Nat) (v : Value) (h : (Go.madeCells #[.bool false, .slice none 0 0] n)[i]? = some v) (x : Int) : v ≠ .int .u64 x := by
  intro e
  subst e
  have hlt : i < (Go.madeCells #[Value.bool false, .slice none 0 0] n).size := (Array.getElem?_eq_some_iff.1 h).1
  simp only [Go.madeCells] at h hlt
  simp at hlt
  simp [hlt] at h
  rcases Nat.mod_two_eq_zero_or_one i with e | e <;> rw [e] at h <;> simp at h

/-- What is done of a row of numbers. -/
def Part (w : World) (B n : Nat) (zs : List Int) (L : Nat) : Prop :=
  ∃ cs : Array Value, w.heap[B]? = some (.cells cs 78 (0, 0)) ∧ cs.size = n * 2 ∧ (∀ (i : Nat) (v : Value), cs[i]? = some v → ∀ x : Int, v ≠ Value.int .u64 x) ∧
    ∀ i z, zs[i]? = some z → ∃ neg p m c xs, cs[i * 2]? = some (.bool neg) ∧ cs[i * 2 + 1]? = some (.slice p m c) ∧ NumIs w neg p m c xs z L

theorem Part.nums {w : World} {B n : Nat} {zs : List Int} {L : Nat} (h : Part w B n zs L) : Nums w (some ⟨B, 0, none⟩) zs L := by
  obtain ⟨cs, hh, hn, _, hz⟩ := h
  intro i z hi
  obtain ⟨neg, p, m, c, xs, h0, h1, hx⟩ := hz i z hi
  refine ⟨B, 0, neg, p, m, c, xs, rfl, (Array.getElem?_eq_some_iff.1 hh).1, ?_, ?_, hx⟩
  · simp [World.cell?, hh, h0]
  · simp [World.cell?, hh, h1]

theorem Part.below {w w' : World} {B n : Nat} {zs : List Int} {L : Nat} (h : Part w B n zs L) (hb : Below w.heap.size w w') : Part w' B n zs L := by
  obtain ⟨cs, hh, hn, hv, hz⟩ := h
  refine ⟨cs, (hb.block B (Array.getElem?_eq_some_iff.1 hh).1).trans hh, hn, hv, fun i z hi => ?_⟩
  obtain ⟨neg, p, m, c, xs, h0, h1, hx⟩ := hz i z hi
  exact ⟨neg, p, m, c, xs, h0, h1, hx.below hb⟩

theorem NumIs.set {w : World} {neg : Bool} {p : Option Addr} {n c : Nat} {xs : List Nat} {z : Int} {L : Nat} (h : NumIs w neg p n c xs z L) {B o : Nat} {u : Value} (hu : w.cell? ⟨B, o, none⟩ = some u) (hne : ∀ x, u ≠ .int .u64 x) (v : Value) : NumIs (w.setCell ⟨B, o, none⟩ v) neg p n c xs z L :=
  { h with rd := h.rd.setOther hu hne v }

theorem Part.put {w : World} {B n : Nat} {zs : List Int} {L : Nat} (h : Part w B n zs L) {neg : Bool} {p : Option Addr} {m c : Nat} {xs : List Nat} {z : Int} (hx : NumIs w neg p m c xs z L) (hlt : zs.length < n) :
    Part ((w.setCell ⟨B, zs.length * 2, none⟩ (.bool neg)).setCell ⟨B, zs.length * 2 + 1, none⟩ (.slice p m c)) B n (zs ++ [z]) L ∧
    (∃ u v, w.cell? ⟨B, zs.length * 2, none⟩ = some u ∧ w.cell? ⟨B, zs.length * 2 + 1, none⟩ = some v) ∧ (∀ i, w.frozen? ⟨B, i, none⟩ = false) := by
  obtain ⟨cs, hh, hn, hv, hz⟩ := h
  have hc : ∀ i, w.cell? ⟨B, i, none⟩ = cs[i]? := fun i => by simp [World.cell?, hh]
  have l0 : zs.length * 2 < cs.size := by omega
  have l1 : zs.length * 2 + 1 < cs.size := by omega
  have u0 : w.cell? ⟨B, zs.length * 2, none⟩ = some cs[zs.length * 2] := by rw [hc, Array.getElem?_eq_getElem l0]
  have u1 : w.cell? ⟨B, zs.length * 2 + 1, none⟩ = some cs[zs.length * 2 + 1] := by rw [hc, Array.getElem?_eq_getElem l1]
  have u1' : (w.setCell ⟨B, zs.length * 2, none⟩ (.bool neg)).cell? ⟨B, zs.length * 2 + 1, none⟩ = some cs[zs.length * 2 + 1] := (World.cell?_setCell_other _ _ _ _ (by simp)).trans u1
  have n0 := hv _ _ (Array.getElem?_eq_getElem l0)
  have n1 := hv _ _ (Array.getElem?_eq_getElem l1)
  have hset : ∀ {q : Bool} {r : Option Addr} {k d : Nat} {ys : List Nat} {y : Int}, NumIs w q r k d ys y L → NumIs ((w.setCell ⟨B, zs.length * 2, none⟩ (.bool neg)).setCell ⟨B, zs.length * 2 + 1, none⟩ (.slice p m c)) q r k d ys y L := fun g => (g.set u0 n0 _).set u1' n1 _
  refine ⟨⟨(cs.setIfInBounds (zs.length * 2) (.bool neg)).setIfInBounds (zs.length * 2 + 1) (.slice p m c), ?_, by simp [hn], ?_, ?_⟩, ⟨_, _, u0, u1⟩, fun i => by simp [World.frozen?, hh]⟩
  · rw [Lib.heap_setCell_same (Lib.heap_setCell_same hh _)]
  · intro i v hi x
    rw [Array.getElem?_setIfInBounds] at hi
    split at hi
    · split at hi
      · cases hi; simp
      · cases hi
    · rw [Array.getElem?_setIfInBounds] at hi
      split at hi
      · first
          | (cases hi; simp; done)
          | (split at hi <;> cases hi; simp)
      · exact hv _ _ hi x
  · intro i z' hi
    rcases Nat.lt_or_ge i zs.length with hlt' | hge
    · rw [List.getElem?_append_left hlt'] at hi
      obtain ⟨neg', p', m', c', xs', h0, h1, hx'⟩ := hz i z' hi
      refine ⟨neg', p', m', c', xs', ?_, ?_, hset hx'⟩
      · rw [Array.getElem?_setIfInBounds_ne (by omega), Array.getElem?_setIfInBounds_ne (by omega)]; exact h0
      · rw [Array.getElem?_setIfInBounds_ne (by omega), Array.getElem?_setIfInBounds_ne (by omega)]; exact h1
    · obtain rfl : i = zs.length := by
        have := (List.getElem?_eq_some_iff.1 hi).1
        simp at this; omega
      simp at hi
      subst hi
      refine ⟨neg, p, m, c, xs, ?_, ?_, hset hx⟩
      · rw [Array.getElem?_setIfInBounds_ne (by omega), Array.getElem?_setIfInBounds_self_of_lt l0]
      · rw [Array.getElem?_setIfInBounds_self_of_lt (by simp; omega)]


def vals (l : List ByteArray) : List Int := l.map fun s => strV s.data.toList

theorem allB_at {l : List ByteArray} (h : allB l = true) {j : Nat} (hj : j < l.length) : numB l[j].data.toList = true := (List.all_eq_true.1 h) _ (List.getElem_mem hj)

set_option maxHeartbeats 1000000 in
theorem readAll_any (a : Option Addr) (n c : Nat) (l : List ByteArray) (w : World) (hl : l.length = n) (hn : n ≤ 1000000) (hr : RdS w a l) (hs : ∀ s ∈ l, s.size ≤ maxLen) (hall : allB l = true) :
    Calls Tryz.prog 120 #[.slice a n c] w fun e w' => ∃ B, e = .returned (.slice (some ⟨B, 0, none⟩) n n) ∧ Nums w' (some ⟨B, 0, none⟩) (vals l) 223 ∧ Below w.heap.size w w' := by
  have hmk := mkNums n hn w
  have hP : Part (w.alloc (.cells (Go.madeCells #[.bool false, .slice none 0 0] (n * 2)) 78)) w.heap.size n [] 223 :=
    ⟨_, World.alloc_heap_new w _, Go.size_madeCells _ _, fun i v h x => madeNums_at _ _ _ h x, fun i z h => by simp at h⟩
  have hB0 : Below w.heap.size w (w.alloc (.cells (Go.madeCells #[.bool false, .slice none 0 0] (n * 2)) 78)) := (Below.refl _ w).alloc (Nat.le_refl _) _
  have y0 : w.heap.size < (w.alloc (.cells (Go.madeCells #[.bool false, .slice none 0 0] (n * 2)) 78)).heap.size := by simp
  have HL := Lib.hid hl
  have HR := Lib.hid hr
  have HS := Lib.hid hs
  have HA := Lib.hid hall
  clear hl hr hs hall
  go_enter Tryz.func120, Tryz.ntmps120
  go_wp2
  go_loopw [4, 5, 11] (fun v4 v5 i wr => ∃ j : Nat, j ≤ n ∧ i = .int .i64 j ∧ Hid (Part wr w.heap.size n (vals (l.take j)) 223) ∧ w.heap.size < wr.heap.size ∧ Below w.heap.size w wr) (fun _ _ i _ => n - (intOf i).toNat)
  case atStart => exact ⟨0, Nat.zero_le _, rfl, hP, y0, hB0⟩
  case round =>
    obtain ⟨j, hj, rfl, hp, hlt0, hb⟩ := hrel
    by_cases hlt : j < n
    · have hjl : j < l.length := by rw [HL.out]; exact hlt
      have hlen : (vals (l.take j)).length = j := by simp [vals]; omega
      obtain ⟨b, off, rfl, hb1, hc⟩ := (HR.out.below hb) j _ (List.getElem?_eq_getElem hjl)
      have hsz := HS.out _ (List.getElem_mem hjl)
      have hnb := allB_at HA.out hjl
      have hvs : vals (l.take (j + 1)) = vals (l.take j) ++ [strV l[j].data.toList] := by unfold vals; rw [List.take_succ_eq_append_getElem hjl, List.map_append]; rfl
      generalize l[j] = x at *
      have HN := Lib.hid hnb
      have HV := Lib.hid hvs
      clear hnb hvs
      go_wp2_with (go_at_call 106; refine (read_any x _ hsz HN.out).mono ?_; rintro e w1 ⟨neg, p, m, d, xs, rfl, hx, hb2⟩; obtain ⟨q1, ⟨u, v, q2, q3⟩, q4⟩ := (hp.out.below hb2).put hx (by rw [hlen]; exact hlt); rw [hlen] at q1 q2 q3; have q5 := q4 (j * 2); have q6 := q4 (j * 2 + 1))
      go_roundw
      case rel => exact ⟨j + 1, by omega, by go_num, (by rw [HV.out]; exact q1), by simp; exact Nat.lt_of_lt_of_le hlt0 hb2.size, ((hb.trans (hb2.mono hb.size)).setCell (by simp) _).setCell (by simp) _⟩
      case measure => simp [intOf]; omega
    · obtain rfl : j = n := by omega
      go_wp2
      go_ret
      have := hp.out.nums
      rw [List.take_of_length_le (by rw [HL.out]; exact Nat.le_refl _)] at this
      exact ⟨_, rfl, this, hb⟩

end Go.Proofs.YtimcbmgmngkagaaGreatDoor

namespace Go.Proofs.YtimcbmgmngkagaaGreatDoor
open Go.RowKit

/-- What a division hands back. -/
def DivOut (w : World) (xs ys : List Nat) (e : Ending) (w' : World) : Prop :=
  ∃ p n c qs q m d rs, e = .returned (.tuple #[.slice p n c, .slice q m d]) ∧ Rd .u64 w' p n qs ∧ n ≤ c ∧ Cn BW qs ∧ Rd .u64 w' q m rs ∧ m ≤ d ∧ Cn BW rs ∧ dv BW xs = dv BW qs * dv BW ys + dv BW rs ∧ dv BW rs < dv BW ys ∧ Below w.heap.size w w'

theorem sgnCmp_neg {a b : Int} : sgnCmp a b < 0 ↔ a < b := by
  unfold sgnCmp; split
  · simp; omega
  · split <;> simp <;> omega

theorem one_word (w : World) (r : Nat) : Rd .u64 (w.alloc (.cells #[.int .u64 (r : Int)] 117)) (some ⟨w.heap.size, 0, none⟩) 1 [r] :=
  ⟨rfl, fun i hi => ⟨w.heap.size, 0, rfl, by simp, by obtain rfl : i = 0 := by omega
                                                      simp [go_sem]⟩⟩

set_option maxHeartbeats 1000000 in
/-- x is less than y, or y has one word. -/
theorem divideWords_small (p q : Option Addr) (n c m d : Nat) (xs ys : List Nat) (w : World) (hn : n ≤ 1000000) (hm : m ≤ 1000000) (hc : n ≤ c) (hd : m ≤ d) (hx : Rd .u64 w p n xs) (hy : Rd .u64 w q m ys) (gx : Cn BW xs) (gy : Cn BW ys) (h0 : 0 < dv BW ys)
    (h : dv BW xs < dv BW ys ∨ m = 1) : Calls Tryz.prog 107 #[.slice p n c, .slice q m d] w (DivOut w xs ys) := by
  by_cases hlt : dv BW xs < dv BW ys
  · have h1 : sgnCmp (dv BW xs) (dv BW ys) = -1 := sgnCmp_lt (by omega)
    have H1 := Lib.hid h1
    have HX := Lib.hid hx
    clear h h1
    go_enter Tryz.func107, Tryz.ntmps107
    go_wp2_with (go_at_call 114; refine (compareWords_any _ _ _ _ _ _ xs ys _ (by omega) (by omega) hx hy gx gy).mono ?_; rintro e w1 ⟨rfl, hb1⟩; rw [H1.out])
    go_ret2
    exact ⟨none, 0, 0, [], p, n, c, xs, rfl, Rd.nil _ _ _, Nat.le_refl _, Cn.nil _, hx.below hb1, hc, gx, by simp [dv], hlt, hb1⟩
  · obtain rfl : m = 1 := h.resolve_left hlt
    have h1 : ¬ sgnCmp (dv BW xs) (dv BW ys) < 0 := by rw [sgnCmp_neg]; omega
    obtain ⟨y, rfl⟩ : ∃ y, ys = [y] := by
      have := hy.1
      match ys, this with
      | [y], _ => exact ⟨y, rfl⟩
    have hyy : dv BW [y] = y := by simp [dv]
    have hy0 : 0 < y := by rw [hyy] at h0; exact h0
    have hyB : y < 1000000000 := gy.1 y (by simp)
    obtain ⟨SG, hSG⟩ : ∃ SG, sgnCmp (dv BW xs) (dv BW [y]) = SG := ⟨_, rfl⟩
    rw [hSG] at h1
    have H1 := Lib.hid hSG
    obtain ⟨b, off, rfl, hb, hcell⟩ := hy.2 0 (by omega)
    have hcell' : w.cell? ⟨b, off, none⟩ = some (.int .u64 (y : Int)) := by simpa using hcell
    clear hSG h hcell
    go_enter Tryz.func107, Tryz.ntmps107
    go_wp2_with (first
      | (go_at_call 114; refine (compareWords_any _ _ _ _ _ _ xs [y] _ (by omega) (by omega) hx hy gx gy).mono ?_; rintro e w1 ⟨rfl, hb1⟩; rw [H1.out]; have hcell1 := (hb1.cell (p := ⟨b, off, none⟩) hb).trans hcell')
      | (go_at_call 148; refine (divideByWord_any _ _ _ y xs _ (by omega) (hx.below hb1) gx.1 hy0 hyB).mono ?_; rintro e w2 ⟨p', n', c', qs, r, rfl, r1, r2, r3, r4, r5, hb2⟩; have hR1 := one_word w2 r)
      | (go_at_call 147; refine (trimmed_any _ _ _ [r] _ (by decide) (Nat.le_refl _) hR1).mono ?_; rintro e w3 ⟨rfl, rfl⟩))
    go_ret2
    have gd : Dg BW [r] := Dg.cons (show r < 1000000000 by omega) (Dg.nil _)
    have g1 : trimLen [r] 1 ≤ 1 := trimLen_le _ _
    have hbn : Below w2.heap.size w2 (w2.alloc (.cells #[.int .u64 (r : Int)] 117)) := (Below.refl _ _).alloc (Nat.le_refl _) _
    have hv : dv BW (trimZ [r]) = r := by rw [dv_trimZ]; simp [dv]
    refine ⟨_, _, _, qs, _, _, _, trimZ [r], rfl, r1.below hbn, r2, r3, ?_, Nat.le_refl _, trimZ_cn gd, ?_, ?_, (hb1.trans (hb2.mono hb1.size)).trans (hbn.mono (Nat.le_trans hb1.size hb2.size))⟩
    · exact hR1.take _ g1
    · rw [hv, hyy]; exact r5
    · rw [hv, hyy]; exact r4


theorem four_boxes {W : World} (u0 u1 u2 u3 u4 u5 u6 u7 : Value) (t : TypeId) :
    Boxed2 ((((W.alloc (.cells #[u0, u1] t)).alloc (.cells #[u2, u3] t)).alloc (.cells #[u4, u5] t)).alloc (.cells #[u6, u7] t)) W.heap.size u0 u1 t ∧
    Boxed2 ((((W.alloc (.cells #[u0, u1] t)).alloc (.cells #[u2, u3] t)).alloc (.cells #[u4, u5] t)).alloc (.cells #[u6, u7] t)) (W.heap.size + 1) u2 u3 t ∧
    Boxed2 ((((W.alloc (.cells #[u0, u1] t)).alloc (.cells #[u2, u3] t)).alloc (.cells #[u4, u5] t)).alloc (.cells #[u6, u7] t)) (W.heap.size + 1 + 1) u4 u5 t ∧
    Boxed2 ((((W.alloc (.cells #[u0, u1] t)).alloc (.cells #[u2, u3] t)).alloc (.cells #[u4, u5] t)).alloc (.cells #[u6, u7] t)) (W.heap.size + 1 + 1 + 1) u6 u7 t := by
  obtain ⟨a, b⟩ := pair_boxes (W := W) u0 u1 u2 u3 t
  obtain ⟨c, d⟩ := pair_boxes (W := (W.alloc (.cells #[u0, u1] t)).alloc (.cells #[u2, u3] t)) u4 u5 u6 u7 t
  simp only [World.size_alloc] at c d
  exact ⟨(a.alloc _).alloc _, (b.alloc _).alloc _, c, d⟩

/-- Quotient and remainder, from 0 on. -/
def QuotOut (w : World) (x y : Int) (L : Nat) (e : Ending) (w' : World) : Prop :=
  ∃ a p n c xs q m d ys, e = .returned (.tuple #[.agg #[.bool a, .slice p n c], .agg #[.bool false, .slice q m d]]) ∧ NumIs w' a p n c xs (x / y) L ∧ NumIs w' false q m d ys (x % y) L ∧ Below w.heap.size w w'

theorem quot_says {X Y Q R : Nat} (h : X = Q * Y + R) (hR : R < Y) (a b : Bool) (ha : a = true → R = 0) :
    sv (a != b) Q = sv a X / sv b Y ∧ (R : Int) = sv a X % sv b Y := by
  have hY : (0 : Int) < (Y : Int) := by omega
  have h' : (X : Int) = (Q : Int) * (Y : Int) + (R : Int) := by rw [h]; simp
  have key : ∀ (q r x : Int), x = q * (Y : Int) + r → 0 ≤ r → r < (Y : Int) → x / (Y : Int) = q ∧ x % (Y : Int) = r := by
    intro q r x e h0 h1
    exact (Int.ediv_emod_unique hY).2 ⟨by rw [e, Int.mul_comm]; omega, h0, h1⟩
  cases a
  · obtain ⟨k1, k2⟩ := key Q R X h' (by omega) (by omega)
    cases b
    · exact ⟨k1.symm, k2.symm⟩
    · simp [sv, Int.ediv_neg, Int.emod_neg, k1, k2]
  · have hR0 : R = 0 := ha rfl
    subst hR0
    obtain ⟨k1, k2⟩ := key (-Q) 0 (-X) (by rw [h']; simp [Int.neg_mul]) (by omega) (by omega)
    cases b
    · simp [sv, k1, k2]
    · simp [sv, Int.ediv_neg, Int.emod_neg, k1, k2]

theorem quot_says' {X Y Q R : Nat} (h : X = Q * Y + R) (hR : R < Y) (hR0 : 0 < R) (b : Bool) :
    sv (true != b) (Q + 1) = sv true X / sv b Y ∧ ((Y - R : Nat) : Int) = sv true X % sv b Y := by
  have hY : (0 : Int) < (Y : Int) := by omega
  have h' : (X : Int) = (Q : Int) * (Y : Int) + (R : Int) := by rw [h]; simp
  obtain ⟨k1, k2⟩ := (Int.ediv_emod_unique (a := -(X : Int)) (q := -((Q : Int) + 1)) (r := (Y : Int) - R) hY).2 ⟨by rw [h', Int.mul_neg, Int.mul_add, Int.mul_comm (Y : Int) (Q : Int)]; omega, by omega, by omega⟩
  have e : ((Y - R : Nat) : Int) = (Y : Int) - R := by omega
  rw [e]
  cases b
  · simp [sv, k1, k2]
  · simp [sv, Int.ediv_neg, Int.emod_neg, k1, k2]


theorem quot_close {W : World} {B2 B3 : Nat} (hne : B2 ≠ B3) {t : TypeId} (l2 : Boxed2 W B2 (.bool false) (.slice none 0 0) t) (l3 : Boxed2 W B3 (.bool false) (.slice none 0 0) t) (neg : Bool) (p q : Option Addr) (n c m d : Nat) :
    Boxed2 ((((W.setCell ⟨B2, 0, none⟩ (.bool neg)).setCell ⟨B2, 1, none⟩ (.slice p n c)).setCell ⟨B3, 0, none⟩ (.bool false)).setCell ⟨B3, 1, none⟩ (.slice q m d)) B2 (.bool neg) (.slice p n c) t ∧
    Boxed2 ((((W.setCell ⟨B2, 0, none⟩ (.bool neg)).setCell ⟨B2, 1, none⟩ (.slice p n c)).setCell ⟨B3, 0, none⟩ (.bool false)).setCell ⟨B3, 1, none⟩ (.slice q m d)) B3 (.bool false) (.slice q m d) t ∧
    ∀ r k xs, Rd .u64 W r k xs → Rd .u64 ((((W.setCell ⟨B2, 0, none⟩ (.bool neg)).setCell ⟨B2, 1, none⟩ (.slice p n c)).setCell ⟨B3, 0, none⟩ (.bool false)).setCell ⟨B3, 1, none⟩ (.slice q m d)) r k xs := by
  have e3 := (l3.setOther (C := B2) (i := 0) (.bool neg) hne.symm).setOther (C := B2) (i := 1) (.slice p n c) hne.symm
  have e2 := l2.set (.bool neg) (.slice p n c)
  exact ⟨(e2.setOther _ hne).setOther _ hne, e3.set _ _, fun r k xs h => (((h.box l2 _).box (l2.set0 _) _).box e3 _).box (e3.set0 _) _⟩

theorem quot_num {w0 w1 W : World} {a b : Bool} {p q p' q' : Option Addr} {n c m d n' c' m' d' : Nat} {xs ys qs rs : List Nat} {x y : Int} {L M : Nat} (hx : NumIs w0 a p n c xs x L) (hy : NumIs w1 b q m d ys y M)
    (r1 : Rd .u64 W p' n' qs) (r2 : n' ≤ c') (r3 : Cn BW qs) (r4 : Rd .u64 W q' m' rs) (r5 : m' ≤ d') (r6 : Cn BW rs) (r7 : dv BW xs = dv BW qs * dv BW ys + dv BW rs) (r8 : dv BW rs < dv BW ys) (h0 : a = true → dv BW rs = 0) :
    NumIs W ((a != b) && decide (0 < n')) p' n' c' qs (x / y) (max L M) ∧ NumIs W false q' m' d' rs (x % y) (max L M) := by
  obtain ⟨e1, e2⟩ := quot_says r7 r8 a b h0
  have sx := hx.small
  have sy := hy.small
  rw [hx.val, sv_natAbs] at sx
  rw [hy.val, sv_natAbs] at sy
  have g1 := Nat.pow_le_pow_right (n := BW) (by decide) (Nat.le_max_left L M)
  have g2 := Nat.pow_le_pow_right (n := BW) (by decide) (Nat.le_max_right L M)
  have hQ : dv BW qs ≤ dv BW xs := by
    have := Nat.le_mul_of_pos_right (dv BW qs) (show 0 < dv BW ys by omega)
    omega
  rw [hx.val, hy.val, ← e1, ← e2]
  refine ⟨NumIs.mk' r1 r2 r3 (by rw [r1.1]; simp) (by rw [← r1.1, sv_and _ _ r3]) (by rw [sv_natAbs]; omega), NumIs.mk' r4 r5 r6 (by simp) rfl (by omega)⟩

theorem rest_zero {a : Bool} {X Y Q R : Nat} (h0 : a = true → X % Y = 0) (h7 : X = Q * Y + R) (h8 : R < Y) : a = true → R = 0 := by
  intro ha
  have h1 := h0 ha
  rw [h7, Nat.mul_comm, Nat.mul_add_mod, Nat.mod_eq_of_lt h8] at h1
  exact h1

theorem rest_none {a : Bool} {xs ys qs rs : List Nat} {w : World} {q : Option Addr} {m : Nat} (h0 : a = true → dv BW xs % dv BW ys = 0) (hr : Rd .u64 w q m rs) (gr : Cn BW rs) (h7 : dv BW xs = dv BW qs * dv BW ys + dv BW rs) (h8 : dv BW rs < dv BW ys) : a = true → ¬ (0 : Int) < (m : Int) := by
  intro ha h
  have h1 := h0 ha
  rw [h7, Nat.mul_comm, Nat.mul_add_mod, Nat.mod_eq_of_lt h8] at h1
  have := gr.pos (b := BW) (by decide) (by intro e; have := hr.1; rw [e] at this; simp at this; omega)
  omega

set_option maxHeartbeats 2000000 in
theorem quotient_plain (a b : Bool) (p q : Option Addr) (n c m d : Nat) (xs ys : List Nat) (x y : Int) (L M : Nat) (w : World) (hx : NumIs w a p n c xs x L) (hy : NumIs w b q m d ys y M) (hL : L ≤ 1000000) (hM : M ≤ 1000000)
    (hD : ∀ W, Rd .u64 W p n xs → Rd .u64 W q m ys → Calls Tryz.prog 107 #[.slice p n c, .slice q m d] W (DivOut W xs ys)) (h0 : a = true → dv BW xs % dv BW ys = 0) :
    Calls Tryz.prog 68 #[.agg #[.bool a, .slice p n c], .agg #[.bool b, .slice q m d]] w (QuotOut w x y (max L M)) := by
  obtain ⟨b0, b1, b2, b3⟩ := four_boxes (W := w) (.bool a) (.slice p n c) (.bool b) (.slice q m d) (.bool false) (.slice none 0 0) (.bool false) (.slice none 0 0) 78
  have hb0 : Below w.heap.size w ((((w.alloc (.cells #[.bool a, .slice p n c] 78)).alloc (.cells #[.bool b, .slice q m d] 78)).alloc (.cells #[.bool false, .slice none 0 0] 78)).alloc (.cells #[.bool false, .slice none 0 0] 78)) :=
    ((((Below.refl _ w).alloc (Nat.le_refl _) _).alloc (by simp) _).alloc (by simp <;> omega) _).alloc (by simp <;> omega) _
  have hx1 := hx.below hb0
  have hy1 := hy.below hb0
  have e0 := b0.cell1
  have e1 := b1.cell1
  have HX := Lib.hid hx
  have HY := Lib.hid hy
  clear hx hy
  cases a
  · go_enter Tryz.func68, Tryz.ntmps68
    generalize hW4 : ((((w.alloc (.cells #[.bool false, .slice p n c] 78)).alloc (.cells #[.bool b, .slice q m d] 78)).alloc (.cells #[.bool false, .slice none 0 0] 78)).alloc (.cells #[.bool false, .slice none 0 0] 78)) = w4 at *
    go_wp2_with (first
      | (go_at_call 107; refine (hD _ hx1.rd hy1.rd).mono ?_; rintro e w1 ⟨p', n', c', qs, q', m', d', rs, rfl, r1, r2, r3, r4, r5, r6, r7, r8, hb1⟩; have k0 := (b0.below hb1 (by have := b3.lt; omega)); have k1 := (b1.below hb1 (by have := b3.lt; omega)); have k2 := (b2.below hb1 (by have := b3.lt; omega)); have k3 := (b3.below hb1 b3.lt); have f0 := k0.cell0; have f1 := k1.cell0; have hR0 : false = true → dv BW rs = 0 := (fun h => by cases h); clear h0)
      | (go_at_call 110; refine (signed_any _ _ _ _ _).mono ?_; rintro e w2 ⟨rfl, hb2⟩; have l2 := k2.below hb2 k2.lt; have l3 := k3.below hb2 k3.lt; have g0 := l2.cell0; have g1 := l2.cell1; have g2 := l3.cell0; have g3 := l3.cell1; have g4 := l2.frozen (i := 0); have g5 := l2.frozen (i := 1); have g6 := l3.frozen (i := 0); have g7 := l3.frozen (i := 1)))
    go_wp2
    obtain ⟨z2, z3, z4⟩ := quot_close (by omega) l2 l3 (b && decide (0 < n')) p' q' n' c' m' d'
    have y0 := z2.cell0
    have y1 := z2.cell1
    have y2 := z3.cell0
    have y3 := z3.cell1
    obtain ⟨n1, n2⟩ := quot_num HX.out HY.out (z4 _ _ _ (r1.below hb2)) r2 r3 (z4 _ _ _ (r4.below hb2)) r5 r6 r7 r8 (fun h => by first | exact hR0 trivial | exact hR0 h)
    refine bodyPost_ret (v := .tuple #[.agg #[.bool (b && decide (0 < n')), .slice p' n' c'], .agg #[.bool false, .slice q' m' d']]) (by simp [results, Tryz.results68, go_sem, y0, y1, y2, y3]) rfl ⟨_, p', n', c', qs, q', m', d', rs, rfl, ?_, n2, ?_⟩
    · first | exact n1 | (simp only [Bool.false_bne, Bool.true_bne] at n1; exact n1)
    · exact ((((((hb0.trans (hb1.mono hb0.size)).trans (hb2.mono (Nat.le_trans hb0.size hb1.size)))).setCell (by simp <;> omega) _).setCell (by simp <;> omega) _).setCell (by simp <;> omega) _).setCell (by simp <;> omega) _
  · go_enter Tryz.func68, Tryz.ntmps68
    generalize hW4 : ((((w.alloc (.cells #[.bool true, .slice p n c] 78)).alloc (.cells #[.bool b, .slice q m d] 78)).alloc (.cells #[.bool false, .slice none 0 0] 78)).alloc (.cells #[.bool false, .slice none 0 0] 78)) = w4 at *
    go_wp2_with (first
      | (go_at_call 107; refine (hD _ hx1.rd hy1.rd).mono ?_; rintro e w1 ⟨p', n', c', qs, q', m', d', rs, rfl, r1, r2, r3, r4, r5, r6, r7, r8, hb1⟩; have k0 := (b0.below hb1 (by have := b3.lt; omega)); have k1 := (b1.below hb1 (by have := b3.lt; omega)); have k2 := (b2.below hb1 (by have := b3.lt; omega)); have k3 := (b3.below hb1 b3.lt); have f0 := k0.cell0; have f1 := k1.cell0; have hm1 := rest_none h0 r4 r6 r7 r8 rfl; have hR0 : true = true → dv BW rs = 0 := rest_zero h0 r7 r8; clear h0)
      | (go_at_call 110; refine (signed_any _ _ _ _ _).mono ?_; rintro e w2 ⟨rfl, hb2⟩; have l2 := k2.below hb2 k2.lt; have l3 := k3.below hb2 k3.lt; have g0 := l2.cell0; have g1 := l2.cell1; have g2 := l3.cell0; have g3 := l3.cell1; have g4 := l2.frozen (i := 0); have g5 := l2.frozen (i := 1); have g6 := l3.frozen (i := 0); have g7 := l3.frozen (i := 1)))
    go_wp2
    obtain ⟨z2, z3, z4⟩ := quot_close (by omega) l2 l3 ((!b) && decide (0 < n')) p' q' n' c' m' d'
    have y0 := z2.cell0
    have y1 := z2.cell1
    have y2 := z3.cell0
    have y3 := z3.cell1
    obtain ⟨n1, n2⟩ := quot_num HX.out HY.out (z4 _ _ _ (r1.below hb2)) r2 r3 (z4 _ _ _ (r4.below hb2)) r5 r6 r7 r8 (fun h => by first | exact hR0 trivial | exact hR0 h)
    refine bodyPost_ret (v := .tuple #[.agg #[.bool ((!b) && decide (0 < n')), .slice p' n' c'], .agg #[.bool false, .slice q' m' d']]) (by simp [results, Tryz.results68, go_sem, y0, y1, y2, y3]) rfl ⟨_, p', n', c', qs, q', m', d', rs, rfl, ?_, n2, ?_⟩
    · first | exact n1 | (simp only [Bool.false_bne, Bool.true_bne] at n1; exact n1)
    · exact ((((((hb0.trans (hb1.mono hb0.size)).trans (hb2.mono (Nat.le_trans hb0.size hb1.size)))).setCell (by simp <;> omega) _).setCell (by simp <;> omega) _).setCell (by simp <;> omega) _).setCell (by simp <;> omega) _

theorem rest_pos {X Y Q R : Nat} (h0 : 0 < X % Y) (h7 : X = Q * Y + R) (h8 : R < Y) : 0 < R := by
  rw [h7, Nat.mul_comm, Nat.mul_add_mod, Nat.mod_eq_of_lt h8] at h0
  exact h0

theorem rest_some {w : World} {q : Option Addr} {m : Nat} {rs : List Nat} (h : 0 < dv BW rs) (hr : Rd .u64 w q m rs) : (0 : Int) < (m : Int) := by
  have : rs ≠ [] := by rintro rfl; simp [dv] at h
  have := List.length_pos_iff.2 this
  rw [hr.1] at this; omega

theorem len_le {w w' : World} {p q : Option Addr} {n m : Nat} {ys rs : List Nat} (hy : Rd .u64 w p n ys) (hr : Rd .u64 w' q m rs) (gr : Cn BW rs) (gy : Cn BW ys) (h : dv BW rs < dv BW ys) : m ≤ n := by
  rcases Nat.lt_or_ge n m with hlt | hge
  · have := Cn.lt_of_length (b := BW) (by decide) gy.1 gr (by rw [hy.1, hr.1]; exact hlt)
    omega
  · exact hge

theorem quo_len {w w' : World} {p q : Option Addr} {n m : Nat} {xs ys qs rs : List Nat} (hx : Rd .u64 w p n xs) (hq : Rd .u64 w' q m qs) (gx : Cn BW xs) (gq : Cn BW qs) (h7 : dv BW xs = dv BW qs * dv BW ys + dv BW rs) (h8 : dv BW rs < dv BW ys) : m ≤ n := by
  have h1 := dv_lt gx.1
  rw [hx.1] at h1
  have h2 : dv BW qs ≤ dv BW qs * dv BW ys := Nat.le_mul_of_pos_right (dv BW qs) (show 0 < dv BW ys by omega)
  rw [← hq.1]
  exact gq.length_le (by decide) (by omega)

theorem quot_num' {w0 w1 W : World} {b : Bool} {p q p' q' : Option Addr} {n c m d n' c' m' d' : Nat} {xs ys qs rs zs us : List Nat} {x y : Int} {L M : Nat} (hx : NumIs w0 true p n c xs x L) (hy : NumIs w1 b q m d ys y M)
    (r1 : Rd .u64 W p' n' zs) (r2 : n' ≤ c') (r3 : Cn BW zs) (r4 : Rd .u64 W q' m' us) (r5 : m' ≤ d') (r6 : Cn BW us) (r7 : dv BW xs = dv BW qs * dv BW ys + dv BW rs) (r8 : dv BW rs < dv BW ys) (h0 : 0 < dv BW rs)
    (hz : dv BW zs = dv BW qs + 1) (hu : dv BW us + dv BW rs = dv BW ys) :
    NumIs W ((true != b) && decide (0 < n')) p' n' c' zs (x / y) (max L M) ∧ NumIs W false q' m' d' us (x % y) (max L M) := by
  obtain ⟨e1, e2⟩ := quot_says' r7 r8 h0 b
  have sx := hx.small
  have sy := hy.small
  rw [hx.val, sv_natAbs] at sx
  rw [hy.val, sv_natAbs] at sy
  have g1 := Nat.pow_le_pow_right (n := BW) (by decide) (Nat.le_max_left L M)
  have g2 := Nat.pow_le_pow_right (n := BW) (by decide) (Nat.le_max_right L M)
  have hQ : dv BW qs ≤ dv BW qs * dv BW ys := Nat.le_mul_of_pos_right (dv BW qs) (show 0 < dv BW ys by omega)
  have hus : dv BW us = dv BW ys - dv BW rs := by omega
  rw [hx.val, hy.val, ← e1, ← e2]
  refine ⟨NumIs.mk' r1 r2 r3 (by rw [r1.1]; simp) (by rw [← r1.1, sv_and _ _ r3, hz]) (by rw [sv_natAbs]; omega), NumIs.mk' r4 r5 r6 (by simp) (by rw [hus]; rfl) (by omega)⟩

set_option maxHeartbeats 2000000 in
theorem quotient_neg (b : Bool) (p q : Option Addr) (n c m d : Nat) (xs ys : List Nat) (x y : Int) (L M : Nat) (w : World) (hx : NumIs w true p n c xs x L) (hy : NumIs w b q m d ys y M) (hL : L ≤ 1000000) (hM : M ≤ 1000000)
    (hD : ∀ W, Rd .u64 W p n xs → Rd .u64 W q m ys → Calls Tryz.prog 107 #[.slice p n c, .slice q m d] W (DivOut W xs ys)) (h0 : 0 < dv BW xs % dv BW ys) :
    Calls Tryz.prog 68 #[.agg #[.bool true, .slice p n c], .agg #[.bool b, .slice q m d]] w (QuotOut w x y (max L M)) := by
  obtain ⟨b0, b1, b2, b3⟩ := four_boxes (W := w) (.bool true) (.slice p n c) (.bool b) (.slice q m d) (.bool false) (.slice none 0 0) (.bool false) (.slice none 0 0) 78
  have hb0 : Below w.heap.size w ((((w.alloc (.cells #[.bool true, .slice p n c] 78)).alloc (.cells #[.bool b, .slice q m d] 78)).alloc (.cells #[.bool false, .slice none 0 0] 78)).alloc (.cells #[.bool false, .slice none 0 0] 78)) :=
    ((((Below.refl _ w).alloc (Nat.le_refl _) _).alloc (by simp) _).alloc (by simp <;> omega) _).alloc (by simp <;> omega) _
  have hx1 := hx.below hb0
  have hy1 := hy.below hb0
  have e0 := b0.cell1
  have e1 := b1.cell1
  have HX := Lib.hid hx
  have HY := Lib.hid hy
  clear hx hy
  go_enter Tryz.func68, Tryz.ntmps68
  generalize hW4 : ((((w.alloc (.cells #[.bool true, .slice p n c] 78)).alloc (.cells #[.bool b, .slice q m d] 78)).alloc (.cells #[.bool false, .slice none 0 0] 78)).alloc (.cells #[.bool false, .slice none 0 0] 78)) = w4 at *
  go_wp2_with (first
    | (go_at_call 107; refine (hD _ hx1.rd hy1.rd).mono ?_; rintro e w1 ⟨p', n', c', qs, q', m', d', rs, rfl, r1, r2, r3, r4, r5, r6, r7, r8, hb1⟩; have k0 := (b0.below hb1 (by have := b3.lt; omega)); have k1 := (b1.below hb1 (by have := b3.lt; omega)); have k2 := (b2.below hb1 (by have := b3.lt; omega)); have k3 := (b3.below hb1 b3.lt); have f0 := k0.cell0; have f1 := k1.cell0; have hR0 : 0 < dv BW rs := rest_pos h0 r7 r8; clear h0; have hm1 : (0 : Int) < (m' : Int) := rest_some hR0 r4; have hk1 := k1.cell1; have hy2 := hy1.below hb1; have hW1 : Below w1.heap.size w1 (w1.alloc (.cells #[.int .u64 (1 : Int)] 117)) := (Below.refl _ _).alloc (Nat.le_refl _) _; have hO := one_word w1 1)
    | (go_at_call 108; refine (addWords_any _ _ _ _ _ _ qs [1] _ (Nat.le_trans (quo_len hx1.rd r1 hx1.cn r3 r7 r8) (Nat.le_trans hx1.len (by omega))) (by omega) (r1.below hW1) hO r3.1 (by intro z hz; simp at hz; subst hz; decide)).mono ?_; rintro e w5 ⟨p5, n5, c5, zs5, rfl, s1, s2, s3, s4, hb5⟩; have k0' := (k0.alloc (.cells #[.int .u64 (1 : Int)] 117)).below hb5 (by have := k3.lt; simp; omega); have k1' := (k1.alloc (.cells #[.int .u64 (1 : Int)] 117)).below hb5 (by have := k3.lt; simp; omega); have k2' := (k2.alloc (.cells #[.int .u64 (1 : Int)] 117)).below hb5 (by have := k3.lt; simp; omega); have k3' := (k3.alloc (.cells #[.int .u64 (1 : Int)] 117)).below hb5 (by have := k3.lt; simp; omega); have hk1' := k1'.cell1; have hy3 := (hy2.below hW1).below hb5; have r4' := (r4.below hW1).below hb5)
    | (go_at_call 109; refine (subtractWords_any _ _ _ _ _ _ ys rs _ (Nat.le_trans hy3.len (by omega)) (len_le hy3.rd r4' r6 hy3.cn r8) hy3.rd r4' hy3.cn.1 r6.1 (by omega)).mono ?_; rintro e w6 ⟨p6, n6, c6, zs6, rfl, t1, t2, t3, t4, hb6⟩; have m0 := k0'.below hb6 k0'.lt; have m1 := k1'.below hb6 k1'.lt; have m2 := k2'.below hb6 k2'.lt; have m3 := k3'.below hb6 k3'.lt; have f0 := m0.cell0; have f1 := m1.cell0)
    | (go_at_call 110; refine (signed_any _ _ _ _ _).mono ?_; rintro e w2 ⟨rfl, hb2⟩; have l2 := m2.below hb2 m2.lt; have l3 := m3.below hb2 m3.lt; have g0 := l2.cell0; have g1 := l2.cell1; have g2 := l3.cell0; have g3 := l3.cell1; have g4 := l2.frozen (i := 0); have g5 := l2.frozen (i := 1); have g6 := l3.frozen (i := 0); have g7 := l3.frozen (i := 1)))
  go_wp2
  obtain ⟨z2, z3, z4⟩ := quot_close (by omega) l2 l3 ((!b) && decide (0 < n5)) p5 p6 n5 c5 n6 c6
  have y0 := z2.cell0
  have y1 := z2.cell1
  have y2 := z3.cell0
  have y3 := z3.cell1
  obtain ⟨n1, n2⟩ := quot_num' HX.out HY.out (z4 _ _ _ ((s1.below hb6).below hb2)) s2 s3 (z4 _ _ _ (t1.below hb2)) t2 t3 r7 r8 hR0 (by rw [s4]; simp [dv]) t4
  have h16 := hb1.size
  have h56 := hb5.size
  have h66 := hb6.size
  rw [World.size_alloc] at h56
  refine bodyPost_ret (v := .tuple #[.agg #[.bool ((!b) && decide (0 < n5)), .slice p5 n5 c5], .agg #[.bool false, .slice p6 n6 c6]]) (by simp [results, Tryz.results68, go_sem, y0, y1, y2, y3]) rfl ⟨_, p5, n5, c5, zs5, p6, n6, c6, zs6, rfl, ?_, n2, ?_⟩
  · first | exact n1 | (simp only [Bool.false_bne, Bool.true_bne] at n1; exact n1)
  · exact ((((((((((hb0.trans (hb1.mono hb0.size)).trans (hW1.mono (by have := hb0.size; omega))).trans (hb5.mono (by have := hb0.size; rw [World.size_alloc]; omega))).trans (hb6.mono (by have := hb0.size; omega))).trans (hb2.mono (by have := hb0.size; omega))))).setCell (by simp <;> omega) _).setCell (by simp <;> omega) _).setCell (by simp <;> omega) _).setCell (by simp <;> omega) _


theorem quotient_of (a b : Bool) (p q : Option Addr) (n c m d : Nat) (xs ys : List Nat) (x y : Int) (L M : Nat) (w : World) (hx : NumIs w a p n c xs x L) (hy : NumIs w b q m d ys y M) (hL : L ≤ 1000000) (hM : M ≤ 1000000)
    (hD : ∀ W, Rd .u64 W p n xs → Rd .u64 W q m ys → Calls Tryz.prog 107 #[.slice p n c, .slice q m d] W (DivOut W xs ys)) :
    Calls Tryz.prog 68 #[.agg #[.bool a, .slice p n c], .agg #[.bool b, .slice q m d]] w (QuotOut w x y (max L M)) := by
  by_cases h : a = true → dv BW xs % dv BW ys = 0
  · exact quotient_plain a b p q n c m d xs ys x y L M w hx hy hL hM hD h
  · cases a
    · exact (h (fun h => by cases h)).elim
    · exact quotient_neg b p q n c m d xs ys x y L M w hx hy hL hM hD (Nat.pos_of_ne_zero fun e => h fun _ => e)

/-- What Div hands back. -/
def divE (ok : Bool) (y : Int) : Int := if ok then (if y = 0 then 5 else 0) else 6
def divQ (ok : Bool) (x y : Int) : List UInt8 := if ok && decide (y ≠ 0) then Lib.itoa (x / y) else []
def divR (ok : Bool) (x y : Int) : List UInt8 := if ok && decide (y ≠ 0) then Lib.itoa (x % y) else []
def DivIs (w : World) (ok : Bool) (x y : Int) (e : Ending) (w' : World) : Prop := e = .returned (.tuple #[.string ⟨(divQ ok x y).toArray⟩, .string ⟨(divR ok x y).toArray⟩, .int .i64 (divE ok y)]) ∧ Below w.heap.size w w'

end Go.Proofs.YtimcbmgmngkagaaGreatDoor

namespace Go.Proofs.YtimcbmgmngkagaaGreatDoor
open Go.RowKit Go.Lib

theorem fold_lt (l : List UInt8) : ∀ acc, l.all isDg = true → l.foldl (fun a c => a * 10 + (c.toNat - 48)) acc < (acc + 1) * 10 ^ l.length := by
  induction l with
  | nil => intro acc _; simp
  | cons c r ih =>
    intro acc h
    rw [List.all_cons, Bool.and_eq_true] at h
    have hc : 48 ≤ c.toNat ∧ c.toNat ≤ 57 := by simpa [isDg] using h.1
    have h1 := ih (acc * 10 + (c.toNat - 48)) h.2
    rw [List.foldl_cons, List.length_cons, Nat.pow_succ]
    refine Nat.lt_of_lt_of_le h1 ?_
    have h2 : acc * 10 + (c.toNat - 48) + 1 ≤ (acc + 1) * 10 := by omega
    have h3 := Nat.mul_le_mul_right (10 ^ r.length) h2
    have h4 : (acc + 1) * (10 ^ r.length * 10) = (acc + 1) * 10 * 10 ^ r.length := by rw [Nat.mul_comm (10 ^ r.length) 10, Nat.mul_assoc]
    omega

theorem decV_lt (l : List UInt8) (h : l.all isDg = true) : decV l < 10 ^ l.length := by
  have := fold_lt l 0 h
  rw [Nat.zero_add, Nat.one_mul] at this
  exact this

theorem longB_of {z : Int} {k : Nat} (hk : 1 ≤ k) (h : z.natAbs < 10 ^ k) (h2 : k ≤ 2000) : longB z = false := by
  unfold longB
  have : nd0 z.natAbs ≤ k := by
    unfold nd0
    split
    · omega
    · exact nDigits_le hk h
  simp; omega

theorem strV_lt {l : List UInt8} (h : numB l = true) : (strV l).natAbs < 10 ^ (digitsOf l).length ∧ (digitsOf l).length ≤ 2000 ∧ 1 ≤ (digitsOf l).length := by
  unfold numB plainB at h
  simp only [Bool.and_eq_true, decide_eq_true_eq] at h
  obtain ⟨⟨⟨h1, h2⟩, _⟩, h3⟩ := h
  refine ⟨?_, h3, ?_⟩
  · have h4 := decV_lt _ h2
    unfold strV
    split <;> simp <;> omega
  · cases hd : digitsOf l
    · rw [hd] at h1; simp at h1
    · simp

/-- The least that is too long. -/
theorem limit : ∃ B : Nat, (∀ z : Int, z.natAbs < B → longB z = false) ∧ ∀ l, numB l = true → (strV l).natAbs < B := by
  obtain ⟨k, hk⟩ : ∃ k : Nat, k = 2000 := ⟨_, rfl⟩
  refine ⟨10 ^ k, fun z h => longB_of (by omega) h (by omega), fun l h => ?_⟩
  obtain ⟨h1, h2, _⟩ := strV_lt h
  exact Nat.lt_of_lt_of_le h1 (Nat.pow_le_pow_right (by decide) (by omega))

theorem out_plain {z : Int} (h : longB z = false) : outS z = Lib.itoa z ∧ outE z = 0 := by
  unfold outS outE
  rw [h]
  exact ⟨rfl, rfl⟩

theorem emod_small {x y : Int} {B : Nat} (hy : y ≠ 0) (h : y.natAbs < B) : (x % y).natAbs < B := by
  have h1 := Int.emod_nonneg x hy
  have h2 := Int.emod_lt x hy
  omega

theorem div_not_long {s t : List UInt8} (hs : numB s = true) (ht : numB t = true) (h0 : strV t ≠ 0) : longB (strV s / strV t) = false ∧ longB (strV s % strV t) = false := by
  obtain ⟨B, h1, h2⟩ := limit
  exact ⟨h1 _ (Nat.lt_of_le_of_lt (Int.natAbs_ediv_le_natAbs _ _) (h2 _ hs)), h1 _ (emod_small h0 (h2 _ ht))⟩

theorem num_zero {w : World} {b : Bool} {q : Option Addr} {m d : Nat} {ys : List Nat} {y : Int} {M : Nat} (hy : NumIs w b q m d ys y M) : y = 0 ↔ m = 0 := by
  obtain ⟨h1, h2⟩ := order_facts hy
  have hv := hy.val
  have hn := sv_natAbs b (dv BW ys)
  rw [← hv] at hn
  constructor
  · intro h; subst h
    rcases Nat.eq_zero_or_pos m with h | h
    · exact h
    · have := h2 h; simp at hn; omega
  · intro h; have := h1 h; rw [this] at hn; omega

/-- The words of both can be divided. -/
def CanDiv (x y : Int) : Prop := ∀ (a b : Bool) (p q : Option Addr) (n c m d : Nat) (xs ys : List Nat) (w W : World), NumIs w a p n c xs x 223 → NumIs w b q m d ys y 223 → Rd .u64 W p n xs → Rd .u64 W q m ys → Calls Tryz.prog 107 #[.slice p n c, .slice q m d] W (DivOut W xs ys)

set_option maxHeartbeats 2000000 in
theorem div_ok (s t : ByteArray) (w : World) (hs : s.size ≤ maxLen) (ht : t.size ≤ maxLen) (h1 : numB s.data.toList = true) (h2 : numB t.data.toList = true) (htab : Tab w) (hy0 : strV t.data.toList ≠ 0) (hD : CanDiv (strV s.data.toList) (strV t.data.toList)) :
    Calls Tryz.prog 13 #[.string s, .string t] w (DivIs w true (strV s.data.toList) (strV t.data.toList)) := by
  obtain ⟨l1, l2⟩ := div_not_long h1 h2 hy0
  obtain ⟨o1, o2⟩ := out_plain l1
  obtain ⟨o3, o4⟩ := out_plain l2
  unfold DivIs
  have e1 : divQ true (strV s.data.toList) (strV t.data.toList) = outS (strV s.data.toList / strV t.data.toList) := by unfold divQ; rw [o1]; simp [hy0]
  have e2 : divR true (strV s.data.toList) (strV t.data.toList) = outS (strV s.data.toList % strV t.data.toList) := by unfold divR; rw [o3]; simp [hy0]
  have e3 : divE true (strV t.data.toList) = 0 := by unfold divE; simp [hy0]
  rw [e1, e2, e3]
  have HY0 := Lib.hid hy0
  clear l1 l2 o1 o2 o3 o4 e1 e2 e3 hy0
  go_enter Tryz.func13, Tryz.ntmps13
  go_wp2_with (first
    | (go_at_call 66; refine (pair_ok s t _ hs ht h1 h2).mono ?_; rintro e w1 ⟨a, p, n, c, xs, b, q, m, d, ys, rfl, hx, hy, hb1⟩; have hm0 : (m == 0) = false := (by have := num_zero hy; simp; intro e; exact HY0.out (this.2 e)); have hbA : Below w1.heap.size w1 ((w1.alloc (.cells #[.bool a, .slice p n c] 78)).alloc (.cells #[.bool b, .slice q m d] 78)) := (((Below.refl _ _).alloc (Nat.le_refl _) _).alloc (by simp) _); have hbW := hb1.trans (hbA.mono hb1.size); have hxA := hx.below hbA; have hyA := hy.below hbA; obtain ⟨B1, B2⟩ := pair_boxes (W := w1) (.bool a) (.slice p n c) (.bool b) (.slice q m d) 78)
    | (go_at_call 67; refine (isZero_any _ _ _ _ _ (Nat.le_trans hy.len (by unfold maxLen; omega))).mono ?_; rintro e w2 ⟨rfl, hb2⟩; have hbX := hbW.trans (hb2.mono hbW.size); have hxX := hxA.below hb2; have hyX := hyA.below hb2; have C1 := B1.below hb2 B1.lt; have C2 := B2.below hb2 B2.lt; have c0 := C1.cell0; have c1 := C1.cell1; have c2 := C2.cell0; have c3 := C2.cell1)
    | (go_at_call 68; refine (quotient_of _ _ _ _ _ _ _ _ _ _ _ _ _ _ _ hxX hyX (by omega) (by omega) (fun W r1 r2 => hD _ _ _ _ _ _ _ _ _ _ _ W hxX hyX r1 r2)).mono ?_; rintro e w3 ⟨a3, p3, n3, d3, xs3, q3, m3, f3, ys3, rfl, hx3, hy3, hb3⟩; have hbY := hbX.trans (hb3.mono hbX.size); have hbB : Below w3.heap.size w3 ((w3.alloc (.cells #[.bool a3, .slice p3 n3 d3] 78)).alloc (.cells #[.bool false, .slice q3 m3 f3] 78)) := (((Below.refl _ _).alloc (Nat.le_refl _) _).alloc (by simp) _); have hbZ := hbY.trans (hbB.mono hbY.size); have hxB := hx3.below hbB; have hyB := hy3.below hbB; obtain ⟨D1, D2⟩ := pair_boxes (W := w3) (.bool a3) (.slice p3 n3 d3) (.bool false) (.slice q3 m3 f3) 78))
  refine (written_any _ _ _ _ _ _ _ _ hxB (by omega) (htab.below hbZ)).mono ?_
  rintro e w4 ⟨rfl, hb4⟩
  have hbU := hbZ.trans (hb4.mono hbZ.size)
  have hyU := hyB.below hb4
  have E2 := D2.below hb4 D2.lt
  have e20 := E2.cell0
  have e21 := E2.cell1
  go_wp2_with fail
  refine (written_any _ _ _ _ _ _ _ _ hyU (by omega) (htab.below hbU)).mono ?_
  rintro e w5 ⟨rfl, hb5⟩
  go_wp2
  exact bodyPost_ret (v := .tuple #[.string ⟨(outS (strV s.data.toList / strV t.data.toList)).toArray⟩, .string ⟨(outS (strV s.data.toList % strV t.data.toList)).toArray⟩, .int .i64 0]) (by simp [results, Tryz.results13, go_sem]) rfl ⟨rfl, hbU.trans (hb5.mono hbU.size)⟩

set_option maxHeartbeats 2000000 in
theorem div_zero (s t : ByteArray) (w : World) (hs : s.size ≤ maxLen) (ht : t.size ≤ maxLen) (h1 : numB s.data.toList = true) (h2 : numB t.data.toList = true) (hy0 : strV t.data.toList = 0) :
    Calls Tryz.prog 13 #[.string s, .string t] w (DivIs w true (strV s.data.toList) (strV t.data.toList)) := by
  unfold DivIs
  have e1 : divQ true (strV s.data.toList) (strV t.data.toList) = [] := by unfold divQ; simp [hy0]
  have e2 : divR true (strV s.data.toList) (strV t.data.toList) = [] := by unfold divR; simp [hy0]
  have e3 : divE true (strV t.data.toList) = 5 := by unfold divE; simp [hy0]
  rw [e1, e2, e3]
  have HY0 := Lib.hid hy0
  clear e1 e2 e3 hy0
  go_enter Tryz.func13, Tryz.ntmps13
  go_wp2_with (first
    | (go_at_call 66; refine (pair_ok s t _ hs ht h1 h2).mono ?_; rintro e w1 ⟨a, p, n, c, xs, b, q, m, d, ys, rfl, hx, hy, hb1⟩; have hm0 : (m == 0) = true := (by have := num_zero hy; simp; exact this.1 HY0.out); have hbA : Below w1.heap.size w1 ((w1.alloc (.cells #[.bool a, .slice p n c] 78)).alloc (.cells #[.bool b, .slice q m d] 78)) := (((Below.refl _ _).alloc (Nat.le_refl _) _).alloc (by simp) _); have hbW := hb1.trans (hbA.mono hb1.size))
    | (go_at_call 67; refine (isZero_any _ _ _ _ _ (Nat.le_trans hy.len (by unfold maxLen; omega))).mono ?_; rintro e w2 ⟨rfl, hb2⟩; rw [hm0]))
  exact bodyPost_ret (v := .tuple #[.string ⟨[].toArray⟩, .string ⟨[].toArray⟩, .int .i64 5]) (by simp [results, Tryz.results13, go_sem]) rfl ⟨rfl, hbW.trans (hb2.mono hbW.size)⟩

set_option maxHeartbeats 2000000 in
theorem div_bad (s t : ByteArray) (w : World) (hs : s.size ≤ maxLen) (ht : t.size ≤ maxLen) (h : (numB s.data.toList && numB t.data.toList) = false) (x y : Int) :
    Calls Tryz.prog 13 #[.string s, .string t] w (DivIs w false x y) := by
  go_enter Tryz.func13, Tryz.ntmps13
  go_wp2_with (go_at_call 66; refine (pair_bad s t _ hs ht h).mono ?_; rintro e w1 ⟨rfl, hb1⟩)
  exact bodyPost_ret (v := .tuple #[.string ⟨[].toArray⟩, .string ⟨[].toArray⟩, .int .i64 6]) (by simp [results, Tryz.results13, go_sem]) rfl ⟨rfl, (hb1.alloc hb1.size _).alloc (by have := hb1.size; simp; omega) _⟩

theorem div_any (s t : ByteArray) (w : World) (hs : s.size ≤ maxLen) (ht : t.size ≤ maxLen) (htab : Tab w)
    (hD : numB s.data.toList = true → numB t.data.toList = true → strV t.data.toList ≠ 0 → CanDiv (strV s.data.toList) (strV t.data.toList)) :
    Calls Tryz.prog 13 #[.string s, .string t] w (DivIs w (numB s.data.toList && numB t.data.toList) (strV s.data.toList) (strV t.data.toList)) := by
  cases h : (numB s.data.toList && numB t.data.toList)
  · exact div_bad s t w hs ht h _ _
  · simp only [Bool.and_eq_true] at h
    by_cases h0 : strV t.data.toList = 0
    · exact div_zero s t w hs ht h.1 h.2 h0
    · exact div_ok s t w hs ht h.1 h.2 htab h0 (hD h.1 h.2 h0)

/-- y has one word. -/
theorem canDiv_one {x y : Int} (h0 : y ≠ 0) (h : y.natAbs < 1000000000) : CanDiv x y := by
  intro a b p q n c m d xs ys w W hx hy r1 r2
  have hv := sv_natAbs b (dv BW ys)
  rw [← hy.val] at hv
  have hm : ys.length ≤ 1 := hy.cn.length_le (by decide) (by rw [← hv]; simpa using h)
  rw [hy.rd.1] at hm
  have hm0 : m ≠ 0 := fun e => h0 ((num_zero hy).2 e)
  exact divideWords_small p q n c m d xs ys W (Nat.le_trans hx.len (by decide)) (by omega) hx.cap hy.cap r1 r2 hx.cn hy.cn (by omega) (.inr (by omega))

end Go.Proofs.YtimcbmgmngkagaaGreatDoor

namespace Go.Proofs.YtimcbmgmngkagaaGreatDoor
open Go.RowKit

theorem calls_flip {f : FuncId} {a : Array Value} {w : World} {Q : Ending → Prop} (h : Calls Tryz.prog f a w fun e w' => Q e ∧ w' = w) : Calls Tryz.prog f a w fun e w' => Q e ∧ w = w' := h.mono fun _ _ ⟨x, y⟩ => ⟨x, y.symm⟩

theorem bytes_data (l : List UInt8) : (⟨l.toArray⟩ : ByteArray).data.toList = l := by show l.toArray.toList = l; simp
theorem bytes_small {l : List UInt8} (h : l.length ≤ 1000000000) : (⟨l.toArray⟩ : ByteArray).size ≤ maxLen := by show l.toArray.size ≤ maxLen; unfold maxLen; simp; omega

theorem itoa_len {z : Int} {k : Nat} (hk : 1 ≤ k) (h : z.natAbs < 10 ^ k) : (Lib.itoa z).length ≤ k + 1 := by
  have h1 := nDigits_le hk h
  obtain ⟨_, _, h5⟩ := itoa_says z
  have : (Lib.itoa z).length ≤ (digitsOf (Lib.itoa z)).length + 1 := by
    cases Lib.itoa z with
    | nil => simp
    | cons c t => by_cases h : c = 45 <;> simp [digitsOf, h]
  omega

theorem strV_bound {l : List UInt8} {k : Nat} (h : numB l = true) (hl : l.length ≤ k) : (strV l).natAbs < 10 ^ k := by
  unfold numB plainB at h
  simp only [Bool.and_eq_true] at h
  have h1 := decV_lt _ h.1.1.2
  have h2 : (digitsOf l).length ≤ l.length := by
    cases l with
    | nil => exact Nat.le_refl _
    | cons c t => by_cases h : c = 45 <;> simp [digitsOf, h]
  have h3 : (10 : Nat) ^ (digitsOf l).length ≤ 10 ^ k := Nat.pow_le_pow_right (by decide) (by omega)
  have h4 : (strV l).natAbs = decV (digitsOf l) := by unfold strV; split <;> simp
  rw [h4]
  exact Nat.lt_of_lt_of_le h1 h3

theorem two_list (w : World) (a b : List UInt8) (t : TypeId) : RdL (w.alloc (.cells #[.string ⟨a.toArray⟩, .string ⟨b.toArray⟩] t)) (some ⟨w.heap.size, 0, none⟩) [a, b] := by
  intro i s hs
  refine ⟨w.heap.size, 0, rfl, by simp, ?_⟩
  match i, hs with
  | 0, hs => cases hs; simp [go_sem]
  | 1, hs => cases hs; simp [go_sem]
  | i + 2, hs => simp at hs

end Go.Proofs.YtimcbmgmngkagaaGreatDoor
