/-
  Rows of the call's own that grow by one: digits, bytes; int64 to string and back; The reference: the string of an integer.
-/
import Derived.Lib.AtoiErrMem
import Derived.Lib.ParseIntB
import Derived.Lib.ParseIntBCases
import Derived.Test.YthdhakpmhndbfaaK1
import Derived.Test.YthdhakpmhndbfaaK2
namespace Go.Proofs.Ythdhakpmhndbfaa
open Go.RowKit

abbrev BR : Nat := 10000

/-- A sign and a slice of digits say the integer z. -/
structure RIs (w : World) (neg : Bool) (p : Option Addr) (n c : Nat) (xs : List Nat) (z : Int) : Prop where
  rd : Rd .i64 w p n xs
  cap : n ≤ c
  cn : Cn BR xs
  pos : neg = true → 0 < n
  val : z = sv neg (dv BR xs)

/-- What a call hands back: an integer of at most L digits. -/
def RV (w : World) (z : Int) (L : Nat) (e : Ending) (w' : World) : Prop :=
  ∃ neg p n c xs, e = .returned (.agg #[.bool neg, .slice p n c]) ∧ RIs w' neg p n c xs z ∧ n ≤ L ∧ Below w.heap.size w w'

theorem RIs.below {w w' : World} {neg : Bool} {p : Option Addr} {n c : Nat} {xs : List Nat} {z : Int} (h : RIs w neg p n c xs z) (hb : Below w.heap.size w w') : RIs w' neg p n c xs z := { h with rd := h.rd.below hb }

theorem RIs.zero (w : World) : RIs w false none 0 0 [] 0 := { rd := Rd.nil _ _ _, cap := Nat.le_refl _, cn := Cn.nil _, pos := (by intro h; cases h), val := rfl }

theorem sv_and' (b : Nat) (neg : Bool) (zs : List Nat) : sv (neg && decide (0 < zs.length)) (dv b zs) = sv neg (dv b zs) := by
  cases neg
  · rfl
  · by_cases hz : 0 < zs.length
    · simp [hz]
    · have : zs = [] := List.length_eq_zero_iff.1 (by omega)
      subst this; rfl

theorem Rd.boxI {W : World} {p : Option Addr} {n : Nat} {xs : List Nat} (h : Rd .i64 W p n xs) {B i : Nat} {neg : Bool} {q : Option Addr} {k c : Nat} {t : TypeId} (hb : Boxed2 W B (.bool neg) (.slice q k c) t) (v : Value) : Rd .i64 (W.setCell ⟨B, i, none⟩ v) p n xs := by
  refine ⟨h.1, fun j hj => ?_⟩
  obtain ⟨b', off, hp, hlt, hc⟩ := h.2 j hj
  refine ⟨b', off, hp, by simpa using hlt, ?_⟩
  rw [World.cell?_setCell_other _ _ _ _ (fun e => ?_)]
  · exact hc
  · cases e
    rw [hb.cellAt] at hc
    match off + j, hc with
    | 0, hc => simp at hc
    | 1, hc => simp at hc
    | k + 2, hc => simp at hc

/-- The like; its digits lie where they did. -/
def RVp (w : World) (p : Option Addr) (z : Int) (L : Nat) (e : Ending) (w' : World) : Prop :=
  ∃ neg n c xs, e = .returned (.agg #[.bool neg, .slice p n c]) ∧ RIs w' neg p n c xs z ∧ n ≤ L ∧ Below w.heap.size w w'

set_option maxHeartbeats 1000000 in
theorem rnumber_at (neg : Bool) (p : Option Addr) (n c : Nat) (xs : List Nat) (w : World) (hn : n ≤ maxLen) (hc : n ≤ c) (hr : Rd .i64 w p n xs) (gx : Dg BR xs) :
    Calls Try.prog 75 #[.bool neg, .slice p n c] w (RVp w p (sv neg (dv BR xs)) n) := by
  unfold maxLen at hn
  have hb0 : Below w.heap.size w (w.alloc (.cells #[.bool false, .slice none 0 0] 82)) := (Below.refl _ w).alloc (Nat.le_refl _) _
  have b0 := Boxed2.new w (.bool false) (.slice none 0 0) 82
  have hr1 := hr.below hb0
  have c0 := b0.cell0
  have c1 := b0.cell1
  have q0 := b0.frozen (i := 0)
  have q1 := b0.frozen (i := 1)
  have fin : ∀ k, k = trimLen xs n → RVp w p (sv neg (dv BR xs)) n (.returned (.agg #[.bool (neg && decide (0 < k)), .slice p k k])) (w.alloc (.cells #[.bool (neg && decide (0 < k)), .slice p k k] 82)) := by
    rintro k rfl
    have h1 : trimLen xs n ≤ n := trimLen_le _ _
    have hl := hr.1
    have hz : trimZ xs = xs.take (trimLen xs n) := by unfold trimZ; rw [hl]
    have hbk : Below w.heap.size w (w.alloc (.cells #[.bool (neg && decide (0 < trimLen xs n)), .slice p (trimLen xs n) (trimLen xs n)] 82)) := (Below.refl _ w).alloc (Nat.le_refl _) _
    have hrd := (hr.below hbk).take (trimLen xs n) h1
    rw [← hz] at hrd
    refine ⟨_, _, _, trimZ xs, rfl, { rd := hrd, cap := Nat.le_refl _, cn := trimZ_cn gx, pos := by simp, val := ?_ }, h1, hbk⟩
    rw [← hrd.1, sv_and' BR, dv_trimZ]
  have FIN := Lib.hid fin
  clear fin
  go_enter Try.func75, Try.ntmps75
  go_wp2
  go_loop [5] (fun i => ∃ k : Nat, k ≤ n ∧ i = .int .i64 k ∧ Hid (trimLen xs k = trimLen xs n)) (fun i => (intOf i).toNat)
  case atStart => exact ⟨n, Nat.le_refl _, rfl, rfl⟩
  case round =>
    obtain ⟨k, hk, rfl, ht⟩ := hrel
    cases k with
    | zero =>
      have HT := FIN.out 0 ht.out
      have z0 := (Boxed2.new w (.bool false) (.slice p 0 0) 82).cell0
      have z1 := (Boxed2.new w (.bool false) (.slice p 0 0) 82).cell1
      cases neg
      all_goals
        go_wp2
        exact bodyPost_ret (v := .agg #[.bool false, .slice p 0 0]) (by simp [results, Try.results75, go_sem, z0, z1]) rfl (by simpa using HT)
    | succ k =>
      obtain ⟨b, off, rfl, hb, hcell⟩ := hr1.2 k (by omega)
      cases neg
      all_goals
        go_wp2
        · go_round
          case rel =>
            have h1 : (((xs[k]?.getD 0 : Nat) : Int) == 0) = true := by assumption
            exact ⟨k, by omega, by go_num, (trimLen_cut (by simpa using h1)).symm.trans ht.out⟩
          case measure => simp [intOf]
        · have h1 : (((xs[k]?.getD 0 : Nat) : Int) == 0) = false := by assumption
          have HT := FIN.out (k + 1) ((trimLen_keep (by simpa using h1)).symm.trans ht.out)
          have y0 := fun v => (Boxed2.new w (.bool v) (.slice (some ⟨b, off, none⟩) (k + 1) (k + 1)) 82).cell0
          have y1 := fun v => (Boxed2.new w (.bool v) (.slice (some ⟨b, off, none⟩) (k + 1) (k + 1)) 82).cell1
          first
            | exact bodyPost_ret (v := .agg #[.bool false, .slice (some ⟨b, off, none⟩) (k + 1) (k + 1)]) (by simp [results, Try.results75, go_sem, y0, y1]) rfl (by simpa using HT)
            | exact bodyPost_ret (v := .agg #[.bool true, .slice (some ⟨b, off, none⟩) (k + 1) (k + 1)]) (by simp [results, Try.results75, go_sem, y0, y1]) rfl (by simpa using HT)

theorem rnumber_any (neg : Bool) (p : Option Addr) (n c : Nat) (xs : List Nat) (w : World) (hn : n ≤ maxLen) (hc : n ≤ c) (hr : Rd .i64 w p n xs) (gx : Dg BR xs) :
    Calls Try.prog 75 #[.bool neg, .slice p n c] w (RV w (sv neg (dv BR xs)) n) :=
  (rnumber_at neg p n c xs w hn hc hr gx).mono fun _ _ ⟨neg', n', c', xs', h⟩ => ⟨neg', p, n', c', xs', h⟩

end Go.Proofs.Ythdhakpmhndbfaa

namespace Go.Proofs.Ythdhakpmhndbfaa
open Go.RowKit

def icells (ns : List Nat) : List Value := ns.map fun (n : Nat) => Value.int .i64 (n : Int)
theorem icells_append (a b : List Nat) : icells (a ++ b) = icells a ++ icells b := by simp [icells]

/-- A slice of digits that the call has made. -/
def GrI (w : World) (base : Nat) (v : Value) (ns : List Nat) : Prop := w.ownsRow base 3 1 v ns.length (icells ns)
/-- A slice of bytes that the call has made. -/
def GrB (w : World) (base : Nat) (v : Value) (l : List UInt8) : Prop := w.ownsRow base 5 1 v l.length (bcells l)

theorem ownsRow_nil (w : World) (base : Nat) (e : TypeId) : w.ownsRow base e 1 (.slice none 0 0) 0 [] := ⟨rfl, .inl ⟨rfl, rfl⟩⟩
theorem GrI.nil (w : World) (base : Nat) : GrI w base (.slice none 0 0) [] := ownsRow_nil _ _ _
theorem GrB.nil (w : World) (base : Nat) : GrB w base (.slice none 0 0) [] := ownsRow_nil _ _ _

theorem own_block_ge {w : World} {base : Nat} {e : TypeId} {v : Value} {n : Nat} {xs : List Value} (h : w.ownsRow base e 1 v n xs) {k : Nat} (hk : k < base) : some k ≠ v.ownBlock := by
  rcases h.2 with ⟨rfl, _⟩ | ⟨g, cap, cur, rfl, hb, _⟩
  · intro e; cases e
  · intro e; simp [Value.ownBlock] at e; omega

theorem below_of_own {w w' : World} {base : Nat} {e : TypeId} {v : Value} {n : Nat} {xs : List Value} (h : w.ownsRow base e 1 v n xs) (hg : w.grownBy w' v.ownBlock) (hb : base ≤ w.heap.size) : Below base w w' :=
  ⟨hg.os, hg.tape, hg.output, hg.size, fun k hk => hg.block k (by omega) (own_block_ge h hk)⟩

theorem own_form {w : World} {base : Nat} {e : TypeId} {v : Value} {n : Nat} {xs : List Value} (h : w.ownsRow base e 1 v n xs) : ∃ p c, v = .slice p n c ∧ n ≤ c := by
  rcases h.2 with ⟨rfl, rfl⟩ | ⟨g, cap, cur, rfl, hb, _, hc, _⟩
  · exact ⟨none, 0, rfl, Nat.le_refl _⟩
  · exact ⟨_, cap, rfl, hc⟩

theorem GrI.rd {w : World} {base : Nat} {v : Value} {ns : List Nat} (h : GrI w base v ns) : ∃ p c, v = .slice p ns.length c ∧ ns.length ≤ c ∧ Rd .i64 w p ns.length ns := by
  rcases h.2 with ⟨rfl, hn⟩ | ⟨g, cap, cur, rfl, hb, hg, hc, _, hs, ht⟩
  · rw [hn]
    have : ns = [] := List.length_eq_zero_iff.1 hn
    subst this
    exact ⟨none, 0, rfl, Nat.le_refl _, Rd.nil _ _ _⟩
  · refine ⟨_, cap, rfl, hc, rfl, fun i hi => ⟨g, 0, rfl, (Array.getElem?_eq_some_iff.1 hg).1, ?_⟩⟩
    have h1 : (icells ns)[i]? = some (.int .i64 ((ns[i]?.getD 0 : Nat) : Int)) := by unfold icells; simp [hi]
    rw [← ht, Nat.mul_one, List.getElem?_take_of_lt hi] at h1
    rw [Nat.zero_add]
    simpa [World.cell?, hg] using h1

theorem GrI.ge {w : World} {base : Nat} {p : Option Addr} {n c : Nat} {ns : List Nat} (h : GrI w base (.slice p n c) ns) : ∀ b o, p = some ⟨b, o, none⟩ → base ≤ b := by
  intro b o hp
  rcases h.2 with ⟨e, _⟩ | ⟨g, cap, cur, e, hb, _⟩
  · cases e; cases hp
  · cases e; cases hp; exact hb

/-- A store into another block. -/
theorem Rd.setFar {k : IntKind} {w : World} {p : Option Addr} {n : Nat} {xs : List Nat} (h : Rd k w p n xs) {B i : Nat} (hne : ∀ b o, p = some ⟨b, o, none⟩ → b ≠ B) (v : Value) : Rd k (w.setCell ⟨B, i, none⟩ v) p n xs := by
  refine ⟨h.1, fun j hj => ?_⟩
  obtain ⟨b, off, hp, hlt, hc⟩ := h.2 j hj
  refine ⟨b, off, hp, by simpa using hlt, ?_⟩
  rw [World.cell?_setCell_other _ _ _ _ (fun e => hne b off hp (by cases e; rfl))]
  exact hc

theorem GrI.below {w w' : World} {base : Nat} {v : Value} {ns : List Nat} (h : GrI w base v ns) (hb : Below w.heap.size w w') : GrI w' base v ns :=
  own_below h hb
theorem GrB.below {w w' : World} {base : Nat} {v : Value} {l : List UInt8} (h : GrB w base v l) (hb : Below w.heap.size w w') : GrB w' base v l :=
  own_below h hb

/-- append(d, x), as the walk meets it. -/
theorem pushI_law {ops : Array Oper} {Q : Exit → Act → World → Prop} {o : Oper} {rest : List Oper} {a : Act} {W : World} (hgd : o.guard = none) (s x : Operand)
    (ho : o.op = .call { callee := .builtin .append, args := #[s, x], argTypes := #[80, 80] }) {base : Nat} {v : Value} {ns : List Nat} (hs : a.eval s = v) (h : GrI W base v ns) (d : Nat)
    (hx : a.eval x = .slice (some ⟨W.heap.size, 0, none⟩) 1 1) (hl : ns.length ≤ 1000000000000) (hbase : base ≤ W.heap.size)
    (k : ∀ v' w', GrI w' base v' (ns ++ [d]) → Below base W w' → wpList Try.prog ops Q rest (a.put o.dst v') w') : wpList Try.prog ops Q (o :: rest) a (W.alloc (.cells #[.int .i64 (d : Int)] 3)) := by
  obtain ⟨i0, hi, hz0, hz1, hz2⟩ := info_parts Try.info3
  have hg0 := World.grownBy_alloc W (.cells #[.int .i64 (d : Int)] 3) none
  have h' : (W.alloc (.cells #[.int .i64 (d : Int)] 3)).ownsRow base 3 1 v ns.length (icells ns) := World.ownsRow.kept h hg0 (by cases v.ownBlock <;> simp)
  have hc : (W.alloc (.cells #[.int .i64 (d : Int)] 3)).cell? ⟨W.heap.size, 0, none⟩ = some (.int .i64 (d : Int)) := by simp [go_sem]
  refine wpList_append_own _ hgd s x 80 ho base 3 i0 (.int .i64 0) 1 8 Try.underlying80 hi hz0 hz1 hz2 rfl (by decide) v ns.length (icells ns) hs h' ⟨W.heap.size, 0, none⟩ 1 1 [.int .i64 (d : Int)] hx rfl
    (by intro j u hj; match j, hj with | 0, hj => simp at hj; subst hj; simp [Addr.add]) (by simp [Value.oneCell']) (by unfold maxLen; omega) (by omega) (by rw [World.size_alloc]; omega) ?_
  intro v' w' h2 h3 _
  refine k v' w' ?_ ?_
  · unfold GrI; rw [List.length_append, icells_append]; exact h2
  · exact ((Below.refl _ _).alloc hbase _).trans (below_of_own h' h3 (by rw [World.size_alloc]; omega))

end Go.Proofs.Ythdhakpmhndbfaa

namespace Go.Proofs.Ythdhakpmhndbfaa
open Go.RowKit Go.Sort

def inI64 (z : Int) : Bool := decide (-9223372036854775808 ≤ z ∧ z ≤ 9223372036854775807)

end Go.Proofs.Ythdhakpmhndbfaa

namespace Go.Proofs.Ythdhakpmhndbfaa
open Go.RowKit

/-- What has been split off, and what is left. -/
def SplitI (U u : Nat) (ns : List Nat) : Prop := Dg BR ns ∧ dv BR ns + BR ^ ns.length * u = U

theorem SplitI.step {U u : Nat} {ns : List Nat} (h : SplitI U u ns) : SplitI U (u / 10000) (ns ++ [u % 10000]) := by
  refine ⟨h.1.append (Dg.cons (Nat.mod_lt _ (by decide)) (Dg.nil _)), ?_⟩
  rw [dv_snoc, List.length_append, List.length_singleton, Nat.pow_succ, ← h.2, Nat.add_assoc, Nat.mul_assoc, ← Nat.mul_add]
  congr 2
  have := Nat.div_add_mod u 10000
  show u % 10000 + 10000 * (u / 10000) = u
  omega

theorem SplitI.len {U u : Nat} {ns : List Nat} (h : SplitI U u ns) (hu : 0 < u) (hU : U < 18446744073709551616) : ns.length < 5 := by
  rcases Nat.lt_or_ge ns.length 5 with h5 | h5
  · exact h5
  · have h1 : BR ^ 5 ≤ BR ^ ns.length := Nat.pow_le_pow_right (by decide) h5
    have h2 : BR ^ ns.length * 1 ≤ BR ^ ns.length * u := Nat.mul_le_mul_left _ hu
    have h3 : BR ^ 5 = 100000000000000000000 := by decide
    have := h.2
    omega

theorem wrap_nat (U : Nat) (h : U < 18446744073709551616) : IntKind.u64.wrap (U : Int) = (U : Int) := by rw [IntKind.wrap_u64]; omega
theorem wrap_neg (U : Nat) (h0 : 0 < U) (h : U < 18446744073709551616) : IntKind.u64.wrap (-(U : Int)) = ((18446744073709551616 - U : Nat) : Int) ∧ IntKind.u64.wrap (-((18446744073709551616 - U : Nat) : Int)) = (U : Int) := by
  rw [IntKind.wrap_u64, IntKind.wrap_u64]; omega

set_option maxRecDepth 100000 in
set_option maxHeartbeats 1000000 in
theorem from_pos (U : Nat) (h1 : U ≤ 9223372036854775807) (w : World) :
    Calls Try.prog 49 #[.int .i64 (U : Int)] w (RV w (U : Int) 5) := by
  have hb0 : Below w.heap.size w (w.alloc (.cells #[.bool false, .slice none 0 0] 82)) := (Below.refl _ w).alloc (Nat.le_refl _) _
  have b0 := Boxed2.new w (.bool false) (.slice none 0 0) 82
  have hw := wrap_nat U (by omega)
  have hU : (U : Int) < 18446744073709551616 := by omega
  have hneg : ¬ ((U : Int) < 0) := by omega
  go_enter Try.func49, Try.ntmps49
  go_wp2_with fail
  have HU := Lib.hid hU
  clear hw hU h1
  go_loopw [3, 4] (fun v3 v4 wr => ∃ (u : Nat) (ns : List Nat), (u : Int) < 18446744073709551616 ∧ v3 = .int .u64 (u : Int) ∧ Hid (SplitI U u ns) ∧ Hid (ns.length ≤ 5) ∧ GrI wr (w.heap.size + 1) v4 ns ∧ w.heap.size + 1 ≤ wr.heap.size ∧ Below (w.heap.size + 1) (w.alloc (.cells #[.bool false, .slice none 0 0] 82)) wr) (fun v3 _ _ => (intOf v3).toNat)
  case atStart => exact ⟨U, [], HU.out, rfl, ⟨Dg.nil _, by simp [dv]⟩, by show 0 ≤ 5; omega, GrI.nil _ _, by simp, Below.refl _ _⟩
  case round =>
    obtain ⟨u, ns, hu, rfl, HS, HL5, hgr, hsz, hb⟩ := hrel
    by_cases h0 : 0 < u
    · have hlen := HS.out.len h0 (by have := HU.out; omega)
      have hm : u % 10000 < 10000 := Nat.mod_lt _ (by decide)
      have HSS := Lib.hid HS.out.step
      have hlt : u / 10000 < u := by omega
      have hdiv : (u : Int) / 10000 = ((u / 10000 : Nat) : Int) := by omega
      have hmod : (u : Int) % 10000 = ((u % 10000 : Nat) : Int) := by omega
      generalize u / 10000 = q at HSS hlt hdiv
      generalize u % 10000 = d at HSS hm hmod
      go_wp2_with (at_builtin; refine pushI_law rfl _ _ rfl rfl hgr d rfl (by omega) hsz ?_; intro v' w' hgr' hb')
      go_roundw
      case rel => exact ⟨q, ns ++ [d], by omega, rfl, HSS.out, (by show (ns ++ [d]).length ≤ 5; simp; omega), hgr', Nat.le_trans hsz hb'.size, hb.trans hb'⟩
      case measure => simp [intOf]; omega
    · obtain rfl : u = 0 := by omega
      obtain ⟨p, c, rfl, hc, hrd⟩ := hgr.rd
      have hbx := b0.below hb (by omega)
      have hbw := hb0.trans (hb.mono (by omega))
      have hv : dv BR ns = U := by have := HS.out.2; simpa using this
      have HV := Lib.hid hv
      have HDG := Lib.hid HS.out.1
      clear hv
      have hl5 := HL5.out
      go_wp2_with (go_at_call 75; refine (rnumber_any _ _ _ _ ns _ (by unfold maxLen; omega) hc hrd HDG.out).mono ?_; rintro e w2 ⟨neg2, p2, n2, c2, xs2, rfl, hx2, hn2, hb2⟩; have b2 := hbx.below hb2 hbx.lt; have c20 := b2.cell0; have c21 := b2.cell1; have q20 := b2.frozen (i := 0); have q21 := b2.frozen (i := 1))
      have b3 := b2.set (.bool neg2) (.slice p2 n2 c2)
      have z0 := b3.cell0
      have z1 := b3.cell1
      refine bodyPost_ret (v := .agg #[.bool neg2, .slice p2 n2 c2]) (by simp [results, Try.results49, go_sem, z0, z1]) rfl ⟨neg2, p2, n2, c2, xs2, rfl, { rd := (hx2.rd.boxI b2 _).boxI (b2.set0 _) _, cap := hx2.cap, cn := hx2.cn, pos := hx2.pos, val := ?_ }, by omega, ((hbw.trans (hb2.mono hbw.size)).setCell (by simp) _).setCell (by simp) _⟩
      rw [← hx2.val, HV.out]
      simp [sv] <;> omega

set_option maxRecDepth 100000 in
set_option maxHeartbeats 1000000 in
theorem from_neg (U : Nat) (h0 : 0 < U) (h1 : U ≤ 9223372036854775808) (w : World) :
    Calls Try.prog 49 #[.int .i64 (-(U : Int))] w (RV w (-(U : Int)) 5) := by
  have hb0 : Below w.heap.size w (w.alloc (.cells #[.bool false, .slice none 0 0] 82)) := (Below.refl _ w).alloc (Nat.le_refl _) _
  have b0 := Boxed2.new w (.bool false) (.slice none 0 0) 82
  obtain ⟨hw1, hw2⟩ := wrap_neg U h0 (by omega)
  have hU : (U : Int) < 18446744073709551616 := by omega
  generalize 18446744073709551616 - U = X at hw1 hw2
  have hneg : (-(U : Int)) < 0 := by omega
  go_enter Try.func49, Try.ntmps49
  go_wp2_with fail
  have HU := Lib.hid hU
  clear hw1 hw2 hU h1
  go_loopw [3, 4] (fun v3 v4 wr => ∃ (u : Nat) (ns : List Nat), (u : Int) < 18446744073709551616 ∧ v3 = .int .u64 (u : Int) ∧ Hid (SplitI U u ns) ∧ Hid (ns.length ≤ 5) ∧ GrI wr (w.heap.size + 1) v4 ns ∧ w.heap.size + 1 ≤ wr.heap.size ∧ Below (w.heap.size + 1) (w.alloc (.cells #[.bool false, .slice none 0 0] 82)) wr) (fun v3 _ _ => (intOf v3).toNat)
  case atStart => exact ⟨U, [], HU.out, rfl, ⟨Dg.nil _, by simp [dv]⟩, by show 0 ≤ 5; omega, GrI.nil _ _, by simp, Below.refl _ _⟩
  case round =>
    obtain ⟨u, ns, hu, rfl, HS, HL5, hgr, hsz, hb⟩ := hrel
    by_cases h0 : 0 < u
    · have hlen := HS.out.len h0 (by have := HU.out; omega)
      have hm : u % 10000 < 10000 := Nat.mod_lt _ (by decide)
      have HSS := Lib.hid HS.out.step
      have hlt : u / 10000 < u := by omega
      have hdiv : (u : Int) / 10000 = ((u / 10000 : Nat) : Int) := by omega
      have hmod : (u : Int) % 10000 = ((u % 10000 : Nat) : Int) := by omega
      generalize u / 10000 = q at HSS hlt hdiv
      generalize u % 10000 = d at HSS hm hmod
      go_wp2_with (at_builtin; refine pushI_law rfl _ _ rfl rfl hgr d rfl (by omega) hsz ?_; intro v' w' hgr' hb')
      go_roundw
      case rel => exact ⟨q, ns ++ [d], by omega, rfl, HSS.out, (by show (ns ++ [d]).length ≤ 5; simp; omega), hgr', Nat.le_trans hsz hb'.size, hb.trans hb'⟩
      case measure => simp [intOf]; omega
    · obtain rfl : u = 0 := by omega
      obtain ⟨p, c, rfl, hc, hrd⟩ := hgr.rd
      have hbx := b0.below hb (by omega)
      have hbw := hb0.trans (hb.mono (by omega))
      have hv : dv BR ns = U := by have := HS.out.2; simpa using this
      have HV := Lib.hid hv
      have HDG := Lib.hid HS.out.1
      clear hv
      have hl5 := HL5.out
      go_wp2_with (go_at_call 75; refine (rnumber_any _ _ _ _ ns _ (by unfold maxLen; omega) hc hrd HDG.out).mono ?_; rintro e w2 ⟨neg2, p2, n2, c2, xs2, rfl, hx2, hn2, hb2⟩; have b2 := hbx.below hb2 hbx.lt; have c20 := b2.cell0; have c21 := b2.cell1; have q20 := b2.frozen (i := 0); have q21 := b2.frozen (i := 1))
      have b3 := b2.set (.bool neg2) (.slice p2 n2 c2)
      have z0 := b3.cell0
      have z1 := b3.cell1
      refine bodyPost_ret (v := .agg #[.bool neg2, .slice p2 n2 c2]) (by simp [results, Try.results49, go_sem, z0, z1]) rfl ⟨neg2, p2, n2, c2, xs2, rfl, { rd := (hx2.rd.boxI b2 _).boxI (b2.set0 _) _, cap := hx2.cap, cn := hx2.cn, pos := hx2.pos, val := ?_ }, by omega, ((hbw.trans (hb2.mono hbw.size)).setCell (by simp) _).setCell (by simp) _⟩
      rw [← hx2.val, HV.out]
      simp [sv] <;> omega

theorem from_any (n : Int) (h0 : -9223372036854775808 ≤ n) (h1 : n ≤ 9223372036854775807) (w : World) :
    Calls Try.prog 49 #[.int .i64 n] w (RV w n 5) := by
  by_cases h : 0 ≤ n
  · obtain ⟨U, rfl⟩ : ∃ U : Nat, n = (U : Int) := ⟨n.toNat, by omega⟩
    exact from_pos U (by omega) w
  · obtain ⟨U, rfl⟩ : ∃ U : Nat, n = -(U : Int) := ⟨(-n).toNat, by omega⟩
    exact from_neg U (by omega) (by omega) w

end Go.Proofs.Ythdhakpmhndbfaa

namespace Go.Proofs.Ythdhakpmhndbfaa
open Go.RowKit

theorem dv_drop (b : Nat) (xs : List Nat) (k : Nat) (h : k < xs.length) : dv b (xs.drop k) = xs[k]?.getD 0 + b * dv b (xs.drop (k + 1)) := by
  rw [List.drop_eq_getElem_cons h, dv_cons, List.getElem?_eq_getElem h]; rfl

def intV (z : Int) : Int := if inI64 z then z else 0

/-- What the two results are. -/
def IntOut (w : World) (z : Int) (e : Ending) (w' : World) : Prop := e = .returned (.tuple #[.int .i64 (intV z), .bool (inI64 z)]) ∧ Below w.heap.size w w'

theorem int_no {z : Int} (h : inI64 z = false) {w w' : World} {e : Ending} (he : e = .returned (.tuple #[.int .i64 0, .bool false])) (hb : Below w.heap.size w w') : IntOut w z e w' := by
  unfold IntOut intV; rw [h]; exact ⟨he, hb⟩
theorem int_yes {z : Int} (h : inI64 z = true) {w w' : World} {e : Ending} (he : e = .returned (.tuple #[.int .i64 z, .bool true])) (hb : Below w.heap.size w w') : IntOut w z e w' := by
  unfold IntOut intV; rw [h]; exact ⟨he, hb⟩

theorem int_big {neg : Bool} {xs : List Nat} {k : Nat} (hk : k < xs.length) (h : 922337203685477 < dv BR (xs.drop (k + 1))) : inI64 (sv neg (dv BR xs)) = false := by
  have h1 := dv_take_drop BR xs (k + 1) (by omega)
  have h2 : BR ^ 1 ≤ BR ^ (k + 1) := Nat.pow_le_pow_right (by decide) (by omega)
  have h3 : BR ^ 1 * dv BR (xs.drop (k + 1)) ≤ BR ^ (k + 1) * dv BR (xs.drop (k + 1)) := Nat.mul_le_mul_right _ h2
  rw [Nat.pow_one] at h3
  have h4 : 10000 * dv BR (xs.drop (k + 1)) ≤ BR ^ (k + 1) * dv BR (xs.drop (k + 1)) := h3
  unfold inI64
  rw [decide_eq_false_iff_not]
  cases neg <;> simp [sv] <;> omega

theorem hx_digit {w : World} {neg : Bool} {p : Option Addr} {n c : Nat} {xs : List Nat} {z : Int} (h : RIs w neg p n c xs z) (k : Nat) : xs[k]?.getD 0 < 10000 := h.cn.1.get (by decide) k

set_option maxRecDepth 100000 in
set_option maxHeartbeats 1000000 in
theorem rint_any (neg : Bool) (p : Option Addr) (n c : Nat) (xs : List Nat) (z : Int) (w : World) (hn : n ≤ 1000000000) (hx : RIs w neg p n c xs z) :
    Calls Try.prog 74 #[.agg #[.bool neg, .slice p n c]] w (IntOut w z) := by
  have hb0 : Below w.heap.size w (w.alloc (.cells #[.bool neg, .slice p n c] 82)) := (Below.refl _ w).alloc (Nat.le_refl _) _
  have b0 := Boxed2.new w (.bool neg) (.slice p n c) 82
  have c0 := b0.cell0
  have c1 := b0.cell1
  have hrd := hx.rd.below hb0
  have HL := Lib.hid hrd.1
  have HX := Lib.hid hx
  have HR := Lib.hid hrd
  have HB := Lib.hid hb0
  clear hx hrd
  generalize hw1 : w.alloc (.cells #[.bool neg, .slice p n c] 82) = w1 at *
  have HW1 := Lib.hid hw1
  clear hw1
  go_enter Try.func74, Try.ntmps74
  go_wp2_with fail
  rw [HW1.out]
  go_loop [4, 5] (fun v4 v5 => ∃ (k u : Nat), k ≤ n ∧ v5 = .int .i64 ((k : Int) - 1) ∧ v4 = .int .u64 (u : Int) ∧ (u : Int) ≤ 9223372036854779999 ∧ Hid (dv BR (xs.drop k) = u)) (fun _ v5 => (intOf v5 + 1).toNat)
  case atStart => exact ⟨n, 0, Nat.le_refl _, rfl, rfl, by omega, by show dv BR (xs.drop n) = 0; rw [List.drop_of_length_le (by rw [HL.out]; exact Nat.le_refl _)]; rfl⟩
  case round =>
    obtain ⟨k, u, hk, rfl, rfl, hu, HU⟩ := hrel
    cases k with
    | succ k =>
      have hkl : k < xs.length := by rw [HL.out]; omega
      by_cases hbig : 922337203685477 < u
      · have hno := int_big (neg := neg) hkl (by rw [HU.out]; exact hbig)
        rw [← HX.out.val] at hno
        have HN := Lib.hid hno
        have hbi : (922337203685477 : Int) < (u : Int) := by omega
        clear hno hbig
        go_wp2_with fail
        go_ret2
        exact int_no HN.out rfl HB.out
      · obtain ⟨b, off, hp, hb, hcell⟩ := HR.out.2 k (by omega)
        subst hp
        have hd := hx_digit HX.out k
        have hbi : ¬ (922337203685477 : Int) < (u : Int) := by omega
        have hdrop := dv_drop BR xs k hkl
        rw [HU.out] at hdrop
        generalize xs[k]?.getD 0 = d at hd hdrop hcell
        have HD := Lib.hid hdrop
        have h1 : ((k + 1 : Nat) : Int) - 1 = (k : Int) := by omega
        clear hdrop hbig
        go_wp2_with fail
        go_round
        case rel => exact ⟨k, u * 10000 + d, by omega, by go_num, by go_num, by omega, by show _ = _; rw [HD.out, Nat.mul_comm]; exact Nat.add_comm _ _⟩
        case measure => simp [intOf] <;> omega
    | zero =>
      have hv : z = sv neg u := by
        rw [HX.out.val]
        have := HU.out
        rw [List.drop_zero] at this
        rw [this]
      have HV := Lib.hid hv
      have hm1 : ((0 : Nat) : Int) - 1 = -1 := rfl
      have hpos : neg = true → 0 < u := fun h => by
        have h1 := HX.out.cn.pos (by decide) (fun e => by have := HX.out.pos h; have := HX.out.rd.1; rw [e] at this; simp at this; omega)
        have h2 := HU.out
        rw [List.drop_zero] at h2
        omega
      clear hv
      cases neg
      · clear hpos
        by_cases hlt : (u : Int) < 9223372036854775808
        · have hyes : inI64 z = true := by rw [HV.out]; unfold inI64; simp [sv]; omega
          have HY := Lib.hid hyes
          clear hyes hm1
          go_wp2_with fail
          go_ret2
          refine int_yes HY.out ?_ HB.out
          rw [HV.out]; rfl
        · have hno : inI64 z = false := by rw [HV.out]; unfold inI64; rw [decide_eq_false_iff_not]; simp [sv]; omega
          have HY := Lib.hid hno
          clear hno hm1
          go_wp2_with fail
          go_ret2
          exact int_no HY.out rfl HB.out
      · have hu0 := hpos rfl
        by_cases hle : (u : Int) ≤ 9223372036854775808
        · have hyes : inI64 z = true := by rw [HV.out]; unfold inI64; simp [sv]; omega
          have HY := Lib.hid hyes
          obtain ⟨hw1, _⟩ := wrap_neg u hu0 (by omega)
          have hw2 : wrap64 ((18446744073709551616 - u : Nat) : Int) = -(u : Int) := by unfold wrap64; omega
          have hX : ((18446744073709551616 - u : Nat) : Int) = 18446744073709551616 - (u : Int) := by omega
          generalize 18446744073709551616 - u = X at hw1 hw2 hX
          have HXX := Lib.hid hX
          clear hyes hm1 hpos hX
          go_wp2_with fail
          go_ret2
          refine int_yes HY.out ?_ HB.out
          rw [HV.out]; rfl
        · have hno : inI64 z = false := by rw [HV.out]; unfold inI64; rw [decide_eq_false_iff_not]; simp [sv]; omega
          have HY := Lib.hid hno
          clear hno hm1 hpos
          go_wp2_with fail
          go_ret2
          exact int_no HY.out rfl HB.out

end Go.Proofs.Ythdhakpmhndbfaa

namespace Go.Proofs.Ythdhakpmhndbfaa
open Go.RowKit Go.Lib

/-- The places of one digit to the base 10000. -/
def PwI (V x p v : Nat) : Prop := (p = 1000 ∧ v = V) ∨ (p = 100 ∧ v = V * 10 + x / 1000) ∨ (p = 10 ∧ v = V * 100 + x / 100) ∨ (p = 1 ∧ v = V * 1000 + x / 10) ∨ (p = 0 ∧ v = V * 10000 + x)

theorem PwI.step {V x p v : Nat} (hx : x < 10000) (h : PwI V x p v) (h0 : 0 < p) : PwI V x (p / 10) (v * 10 + x / p % 10) := by
  unfold PwI at *
  rcases h with ⟨rfl, rfl⟩ | ⟨rfl, rfl⟩ | ⟨rfl, rfl⟩ | ⟨rfl, rfl⟩ | ⟨rfl, rfl⟩ <;> omega

theorem PwI.done {V x v : Nat} (h : PwI V x 0 v) : v = x + BR * V := by
  unfold PwI at h
  show v = x + 10000 * V
  omega

theorem GrB.form {w : World} {base : Nat} {v : Value} {l : List UInt8} (h : GrB w base v l) : ∃ p c, v = .slice p l.length c := by
  obtain ⟨p, c, e, _⟩ := own_form h
  exact ⟨p, c, e⟩

end Go.Proofs.Ythdhakpmhndbfaa
