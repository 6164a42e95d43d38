/-
  Rows of the call's own that grow by one: digits, bytes.
-/
import Derived.Test.YtapfkinpdinbgaaDoorSum
import Derived.Test.YtapfkinpdinbgaaDoorRefStr
namespace Go.Proofs.YtapfkinpdinbgaaDoor
open Go.RowKit

abbrev BR : Nat := 10000

/-- A sign and a slice of digits say the integer z. -/
structure RIs (w : World) (neg : Bool) (p : Option Addr) (n c : Nat) (xs : List Nat) (z : Int) : Prop where
  rd : Rd .i64 w p n xs
  cap : n ≤ c
  cn : Cn BR xs
  pos : neg = true → 0 < n
  val : z = sv neg (dv BR xs)

/-- What a call hands back: an integer of at most L digits. -/
def RV (w : World) (z : Int) (L : Nat) (e : Ending) (w' : World) : Prop :=
  ∃ neg p n c xs, e = .returned (.agg #[.bool neg, .slice p n c]) ∧ RIs w' neg p n c xs z ∧ n ≤ L ∧ Below w.heap.size w w'

theorem RIs.below {w w' : World} {neg : Bool} {p : Option Addr} {n c : Nat} {xs : List Nat} {z : Int} (h : RIs w neg p n c xs z) (hb : Below w.heap.size w w') : RIs w' neg p n c xs z := { h with rd := h.rd.below hb }

theorem sv_and' (b : Nat) (neg : Bool) (zs : List Nat) : sv (neg && decide (0 < zs.length)) (dv b zs) = sv neg (dv b zs) := by
  cases neg
  · rfl
  · by_cases hz : 0 < zs.length
    · simp [hz]
    · have : zs = [] := List.length_eq_zero_iff.1 (by omega)
      subst this; rfl

theorem Rd.boxI {W : World} {p : Option Addr} {n : Nat} {xs : List Nat} (h : Rd .i64 W p n xs) {B i : Nat} {neg : Bool} {q : Option Addr} {k c : Nat} {t : TypeId} (hb : Boxed2 W B (.bool neg) (.slice q k c) t) (v : Value) : Rd .i64 (W.setCell ⟨B, i, none⟩ v) p n xs := by
  refine ⟨h.1, fun j hj => ?_⟩
  obtain ⟨b', off, hp, hlt, hc⟩ := h.2 j hj
  refine ⟨b', off, hp, by simpa using hlt, ?_⟩
  rw [World.cell?_setCell_other _ _ _ _ (fun e => ?_)]
  · exact hc
  · cases e
    rw [hb.cellAt] at hc
    match off + j, hc with
    | 0, hc => simp at hc
    | 1, hc => simp at hc
    | k + 2, hc => simp at hc

set_option maxHeartbeats 1000000 in
theorem rnumber_any (neg : Bool) (p : Option Addr) (n c : Nat) (xs : List Nat) (w : World) (hn : n ≤ maxLen) (hc : n ≤ c) (hr : Rd .i64 w p n xs) (gx : Dg BR xs) :
    Calls Tryd.prog 46 #[.bool neg, .slice p n c] w (RV w (sv neg (dv BR xs)) n) := by
  unfold maxLen at hn
  have hb0 : Below w.heap.size w (w.alloc (.cells #[.bool false, .slice none 0 0] 29)) := (Below.refl _ w).alloc (Nat.le_refl _) _
  have b0 := Boxed2.new w (.bool false) (.slice none 0 0) 29
  have hr1 := hr.below hb0
  have c0 := b0.cell0
  have c1 := b0.cell1
  have q0 := b0.frozen (i := 0)
  have q1 := b0.frozen (i := 1)
  have fin : ∀ k, k = trimLen xs n → RV w (sv neg (dv BR xs)) n (.returned (.agg #[.bool (neg && decide (0 < k)), .slice p k k])) (w.alloc (.cells #[.bool (neg && decide (0 < k)), .slice p k k] 29)) := by
    rintro k rfl
    have h1 : trimLen xs n ≤ n := trimLen_le _ _
    have hl := hr.1
    have hz : trimZ xs = xs.take (trimLen xs n) := by unfold trimZ; rw [hl]
    have hbk : Below w.heap.size w (w.alloc (.cells #[.bool (neg && decide (0 < trimLen xs n)), .slice p (trimLen xs n) (trimLen xs n)] 29)) := (Below.refl _ w).alloc (Nat.le_refl _) _
    have hrd := (hr.below hbk).take (trimLen xs n) h1
    rw [← hz] at hrd
    refine ⟨_, p, _, _, trimZ xs, rfl, { rd := hrd, cap := Nat.le_refl _, cn := trimZ_cn gx, pos := by simp, val := ?_ }, h1, hbk⟩
    rw [← hrd.1, sv_and' BR, dv_trimZ]
  have FIN := Lib.hid fin
  clear fin
  go_enter Tryd.func46, Tryd.ntmps46
  go_wp2
  go_loop [5] (fun i => ∃ k : Nat, k ≤ n ∧ i = .int .i64 k ∧ Hid (trimLen xs k = trimLen xs n)) (fun i => (intOf i).toNat)
  case atStart => exact ⟨n, Nat.le_refl _, rfl, rfl⟩
  case round =>
    obtain ⟨k, hk, rfl, ht⟩ := hrel
    cases k with
    | zero =>
      have HT := FIN.out 0 ht.out
      have z0 := (Boxed2.new w (.bool false) (.slice p 0 0) 29).cell0
      have z1 := (Boxed2.new w (.bool false) (.slice p 0 0) 29).cell1
      cases neg
      all_goals
        go_wp2
        exact bodyPost_ret (v := .agg #[.bool false, .slice p 0 0]) (by simp [results, Tryd.results46, go_sem, z0, z1]) rfl (by simpa using HT)
    | succ k =>
      obtain ⟨b, off, rfl, hb, hcell⟩ := hr1.2 k (by omega)
      cases neg
      all_goals
        go_wp2
        · go_round
          case rel =>
            have h1 : (((xs[k]?.getD 0 : Nat) : Int) == 0) = true := by assumption
            exact ⟨k, by omega, by go_num, (trimLen_cut (by simpa using h1)).symm.trans ht.out⟩
          case measure => simp [intOf]
        · have h1 : (((xs[k]?.getD 0 : Nat) : Int) == 0) = false := by assumption
          have HT := FIN.out (k + 1) ((trimLen_keep (by simpa using h1)).symm.trans ht.out)
          have y0 := fun v => (Boxed2.new w (.bool v) (.slice (some ⟨b, off, none⟩) (k + 1) (k + 1)) 29).cell0
          have y1 := fun v => (Boxed2.new w (.bool v) (.slice (some ⟨b, off, none⟩) (k + 1) (k + 1)) 29).cell1
          first
            | exact bodyPost_ret (v := .agg #[.bool false, .slice (some ⟨b, off, none⟩) (k + 1) (k + 1)]) (by simp [results, Tryd.results46, go_sem, y0, y1]) rfl (by simpa using HT)
            | exact bodyPost_ret (v := .agg #[.bool true, .slice (some ⟨b, off, none⟩) (k + 1) (k + 1)]) (by simp [results, Tryd.results46, go_sem, y0, y1]) rfl (by simpa using HT)

end Go.Proofs.YtapfkinpdinbgaaDoor

namespace Go.Proofs.YtapfkinpdinbgaaDoor
open Go.RowKit

def icells (ns : List Nat) : List Value := ns.map fun (n : Nat) => Value.int .i64 (n : Int)
theorem icells_append (a b : List Nat) : icells (a ++ b) = icells a ++ icells b := by simp [icells]

/-- A slice of digits that the call has made. -/
def GrI (w : World) (base : Nat) (v : Value) (ns : List Nat) : Prop := w.ownsRow base 3 1 v ns.length (icells ns)
/-- A slice of bytes that the call has made. -/
def GrB (w : World) (base : Nat) (v : Value) (l : List UInt8) : Prop := w.ownsRow base 5 1 v l.length (bcells l)

theorem ownsRow_nil (w : World) (base : Nat) (e : TypeId) : w.ownsRow base e 1 (.slice none 0 0) 0 [] := ⟨rfl, .inl ⟨rfl, rfl⟩⟩
theorem GrI.nil (w : World) (base : Nat) : GrI w base (.slice none 0 0) [] := ownsRow_nil _ _ _
theorem GrB.nil (w : World) (base : Nat) : GrB w base (.slice none 0 0) [] := ownsRow_nil _ _ _

theorem own_block_ge {w : World} {base : Nat} {e : TypeId} {v : Value} {n : Nat} {xs : List Value} (h : w.ownsRow base e 1 v n xs) {k : Nat} (hk : k < base) : some k ≠ v.ownBlock := by
  rcases h.2 with ⟨rfl, _⟩ | ⟨g, cap, cur, rfl, hb, _⟩
  · intro e; cases e
  · intro e; simp [Value.ownBlock] at e; omega

theorem below_of_own {w w' : World} {base : Nat} {e : TypeId} {v : Value} {n : Nat} {xs : List Value} (h : w.ownsRow base e 1 v n xs) (hg : w.grownBy w' v.ownBlock) (hb : base ≤ w.heap.size) : Below base w w' :=
  ⟨hg.os, hg.tape, hg.output, hg.size, fun k hk => hg.block k (by omega) (own_block_ge h hk)⟩

theorem own_form {w : World} {base : Nat} {e : TypeId} {v : Value} {n : Nat} {xs : List Value} (h : w.ownsRow base e 1 v n xs) : ∃ p c, v = .slice p n c ∧ n ≤ c := by
  rcases h.2 with ⟨rfl, rfl⟩ | ⟨g, cap, cur, rfl, hb, _, hc, _⟩
  · exact ⟨none, 0, rfl, Nat.le_refl _⟩
  · exact ⟨_, cap, rfl, hc⟩

theorem GrI.rd {w : World} {base : Nat} {v : Value} {ns : List Nat} (h : GrI w base v ns) : ∃ p c, v = .slice p ns.length c ∧ ns.length ≤ c ∧ Rd .i64 w p ns.length ns := by
  rcases h.2 with ⟨rfl, hn⟩ | ⟨g, cap, cur, rfl, hb, hg, hc, _, hs, ht⟩
  · rw [hn]
    have : ns = [] := List.length_eq_zero_iff.1 hn
    subst this
    exact ⟨none, 0, rfl, Nat.le_refl _, Rd.nil _ _ _⟩
  · refine ⟨_, cap, rfl, hc, rfl, fun i hi => ⟨g, 0, rfl, (Array.getElem?_eq_some_iff.1 hg).1, ?_⟩⟩
    have h1 : (icells ns)[i]? = some (.int .i64 ((ns[i]?.getD 0 : Nat) : Int)) := by unfold icells; simp [hi]
    rw [← ht, Nat.mul_one, List.getElem?_take_of_lt hi] at h1
    rw [Nat.zero_add]
    simpa [World.cell?, hg] using h1

theorem GrI.below {w w' : World} {base : Nat} {v : Value} {ns : List Nat} (h : GrI w base v ns) (hb : Below w.heap.size w w') : GrI w' base v ns :=
  own_below h hb
theorem GrB.below {w w' : World} {base : Nat} {v : Value} {l : List UInt8} (h : GrB w base v l) (hb : Below w.heap.size w w') : GrB w' base v l :=
  own_below h hb

/-- append(d, x), as the walk meets it. -/
theorem pushI_law {ops : Array Oper} {Q : Exit → Act → World → Prop} {o : Oper} {rest : List Oper} {a : Act} {W : World} (hgd : o.guard = none) (s x : Operand)
    (ho : o.op = .call { callee := .builtin .append, args := #[s, x], argTypes := #[27, 27] }) {base : Nat} {v : Value} {ns : List Nat} (hs : a.eval s = v) (h : GrI W base v ns) (d : Nat)
    (hx : a.eval x = .slice (some ⟨W.heap.size, 0, none⟩) 1 1) (hl : ns.length ≤ 1000000000000) (hbase : base ≤ W.heap.size)
    (k : ∀ v' w', GrI w' base v' (ns ++ [d]) → Below base W w' → wpList Tryd.prog ops Q rest (a.put o.dst v') w') : wpList Tryd.prog ops Q (o :: rest) a (W.alloc (.cells #[.int .i64 (d : Int)] 3)) := by
  obtain ⟨i0, hi, hz0, hz1, hz2⟩ := info_parts Tryd.info3
  have hg0 := World.grownBy_alloc W (.cells #[.int .i64 (d : Int)] 3) none
  have h' : (W.alloc (.cells #[.int .i64 (d : Int)] 3)).ownsRow base 3 1 v ns.length (icells ns) := World.ownsRow.kept h hg0 (by cases v.ownBlock <;> simp)
  have hc : (W.alloc (.cells #[.int .i64 (d : Int)] 3)).cell? ⟨W.heap.size, 0, none⟩ = some (.int .i64 (d : Int)) := by simp [go_sem]
  refine wpList_append_own _ hgd s x 27 ho base 3 i0 (.int .i64 0) 1 8 Tryd.underlying27 hi hz0 hz1 hz2 rfl (by decide) v ns.length (icells ns) hs h' ⟨W.heap.size, 0, none⟩ 1 1 [.int .i64 (d : Int)] hx rfl
    (by intro j u hj; match j, hj with | 0, hj => simp at hj; subst hj; simp [Addr.add]) (by simp [Value.oneCell']) (by unfold maxLen; omega) (by omega) (by rw [World.size_alloc]; omega) ?_
  intro v' w' h2 h3 _
  refine k v' w' ?_ ?_
  · unfold GrI; rw [List.length_append, icells_append]; exact h2
  · exact ((Below.refl _ _).alloc hbase _).trans (below_of_own h' h3 (by rw [World.size_alloc]; omega))

theorem pushB_law {ops : Array Oper} {Q : Exit → Act → World → Prop} {o : Oper} {rest : List Oper} {a : Act} {W : World} (hgd : o.guard = none) (s x : Operand)
    (ho : o.op = .call { callee := .builtin .append, args := #[s, x], argTypes := #[60, 60] }) {base : Nat} {v : Value} {l : List UInt8} (hs : a.eval s = v) (h : GrB W base v l) (d : Nat) (hd : d < 256)
    (hx : a.eval x = .slice (some ⟨W.heap.size, 0, none⟩) 1 1) (hl : l.length ≤ 1000000000000) (hbase : base ≤ W.heap.size)
    (k : ∀ v' w', GrB w' base v' (l ++ [UInt8.ofNat d]) → Below base W w' → wpList Tryd.prog ops Q rest (a.put o.dst v') w') : wpList Tryd.prog ops Q (o :: rest) a (W.alloc (.cells #[.int .u8 (d : Int)] 5)) := by
  obtain ⟨i0, hi, hz0, hz1, hz2⟩ := info_parts Tryd.info5
  have hg0 := World.grownBy_alloc W (.cells #[.int .u8 (d : Int)] 5) none
  have h' : (W.alloc (.cells #[.int .u8 (d : Int)] 5)).ownsRow base 5 1 v l.length (bcells l) := World.ownsRow.kept h hg0 (by cases v.ownBlock <;> simp)
  have hc : (W.alloc (.cells #[.int .u8 (d : Int)] 5)).cell? ⟨W.heap.size, 0, none⟩ = some (.int .u8 (d : Int)) := by simp [go_sem]
  refine wpList_append_own _ hgd s x 60 ho base 5 i0 (.int .u8 0) 1 1 Tryd.underlying60 hi hz0 hz1 hz2 rfl (by decide) v l.length (bcells l) hs h' ⟨W.heap.size, 0, none⟩ 1 1 [.int .u8 (d : Int)] hx rfl
    (by intro j u hj; match j, hj with | 0, hj => simp at hj; subst hj; simp [Addr.add]) (by simp [Value.oneCell']) (by unfold maxLen; omega) (by omega) (by rw [World.size_alloc]; omega) ?_
  intro v' w' h2 h3 _
  refine k v' w' ?_ ?_
  · unfold GrB
    rw [List.length_append, bcells_append]
    have e : bcells [UInt8.ofNat d] = [Value.int .u8 (d : Int)] := by simp [bcells]; omega
    rw [e]; exact h2
  · exact ((Below.refl _ _).alloc hbase _).trans (below_of_own h' h3 (by rw [World.size_alloc]; omega))

end Go.Proofs.YtapfkinpdinbgaaDoor
