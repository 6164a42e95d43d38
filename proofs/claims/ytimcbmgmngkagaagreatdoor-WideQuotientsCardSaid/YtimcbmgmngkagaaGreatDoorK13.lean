/-
  The calls of wide, for the texts of integers; Quotients, plain: by the machine's own division; digit by digit, each found by halving; append of a slice of digits onto a row of the call's own; A region that draws its order, operation by operation: what each one yields holds on while memory grows. A last store that comes behind all else is apart; The reference's quotients.
-/
import Derived.Laws.AppendOwnNone
import Derived.Deep.CutBlock
import Derived.Test.YtimcbmgmngkagaaGreatDoorK1
import Derived.Test.YtimcbmgmngkagaaGreatDoorK2
import Derived.Test.YtimcbmgmngkagaaGreatDoorK3
import Derived.Test.YtimcbmgmngkagaaGreatDoorK4
import Derived.Test.YtimcbmgmngkagaaGreatDoorK5
import Derived.Test.YtimcbmgmngkagaaGreatDoorK6
import Derived.Test.YtimcbmgmngkagaaGreatDoorK7
import Derived.Test.YtimcbmgmngkagaaGreatDoorK8
import Derived.Test.YtimcbmgmngkagaaGreatDoorK9
import Derived.Test.YtimcbmgmngkagaaGreatDoorK10
import Derived.Test.YtimcbmgmngkagaaGreatDoorK11
import Derived.Test.YtimcbmgmngkagaaGreatDoorK12
namespace Go.Proofs.YtimcbmgmngkagaaGreatDoor
open Go.RowKit

/-- An integer is short enough to be a number. -/
def Fits (z : Int) : Prop := longB z = false

theorem fits_pow {z : Int} {k : Nat} (h : z.natAbs < 10 ^ k) (hk : k ≤ 2000) (hk1 : 1 ≤ k := by omega) : Fits z := longB_of hk1 h hk
theorem fits_digits {z : Int} (h : Fits z) : (digitsOf (Lib.itoa z)).length ≤ 2000 := by
  unfold Fits at h
  rw [long_itoa] at h
  simpa using h
theorem fits_num {z : Int} (h : Fits z) : numB (Lib.itoa z) = true := by
  unfold numB
  rw [(itoa_says z).1, decide_eq_true (fits_digits h)]
  rfl
theorem fits_val (z : Int) : strV (Lib.itoa z) = z := (itoa_says z).2.1
theorem num_fits {l : List UInt8} (h : numB l = true) : Fits (strV l) := by
  unfold Fits
  rw [long_itoa, itoa_strV h]
  unfold numB at h
  rw [Bool.and_eq_true] at h
  have := of_decide_eq_true h.2
  simpa using this
theorem fits_bound {z : Int} (h : Fits z) : ∃ k, k = 2000 ∧ z.natAbs < 10 ^ k := by
  obtain ⟨k, h1, h2⟩ := num_bound (fits_num h)
  rw [fits_val] at h2
  exact ⟨k, h1, h2⟩
theorem fits_gcd {x y : Int} (hx : Fits x) (hy : Fits y) : Fits ((Int.gcd x y : Nat) : Int) := by
  obtain ⟨k, h1, h2⟩ := fits_bound hx
  obtain ⟨k', h1', h2'⟩ := fits_bound hy
  rw [h1', ← h1] at h2'
  exact fits_pow (k := k) (by rw [Int.natAbs_natCast]; exact gcd_small h2 h2') (by omega)

theorem itoa_neg {z : Int} (h : z < 0) : Lib.itoa z = 45 :: Lib.itoa (-z) := by
  refine plain_inj (itoa_says z).1 ?_ ?_
  · obtain ⟨h1, h2, _⟩ := itoa_says (-z)
    have hn : isNeg (Lib.itoa (-z)) = false := by
      cases hh : isNeg (Lib.itoa (-z))
      · rfl
      · unfold strV at h2
        rw [hh, if_pos rfl] at h2
        omega
    have hd : digitsOf (Lib.itoa (-z)) = Lib.itoa (-z) := by
      have := text_of (l := Lib.itoa (-z))
      rw [hn] at this
      exact this.symm
    have hd2 : digitsOf (45 :: Lib.itoa (-z)) = Lib.itoa (-z) := rfl
    have hp := h1
    unfold plainB at h1 ⊢
    rw [hd] at h1
    rw [hd2]
    simp only [Bool.and_eq_true, Bool.or_eq_true] at h1 ⊢
    refine ⟨h1.1, ?_⟩
    left
    rcases h1.2 with h | h
    · exact h
    · have e : Lib.itoa (-z) = [48] := by simpa using h
      rw [e] at h2
      have : strV [48] = 0 := by decide
      omega
  · rw [fits_val]
    have h2 := fits_val (-z)
    have hn : isNeg (Lib.itoa (-z)) = false := by
      cases hh : isNeg (Lib.itoa (-z))
      · rfl
      · unfold strV at h2
        rw [hh, if_pos rfl] at h2
        omega
    unfold strV at h2 ⊢
    rw [hn] at h2
    have hd : digitsOf (Lib.itoa (-z)) = Lib.itoa (-z) := by
      have := text_of (l := Lib.itoa (-z))
      rw [hn] at this
      exact this.symm
    rw [hd] at h2
    show z = (if isNeg (45 :: Lib.itoa (-z)) = true then -(decV (digitsOf (45 :: Lib.itoa (-z))) : Int) else _)
    rw [show isNeg (45 :: Lib.itoa (-z)) = true from rfl, if_pos rfl, show digitsOf (45 :: Lib.itoa (-z)) = Lib.itoa (-z) from rfl]
    simp at h2
    omega

end Go.Proofs.YtimcbmgmngkagaaGreatDoor

namespace Go.Proofs.YtimcbmgmngkagaaGreatDoor

theorem small_quot {x y : Int} (h0 : y ≠ 0) :
    (x.tmod y < 0 → (0 < y → x.tdiv y - 1 = x / y) ∧ (y < 0 → x.tdiv y + 1 = x / y) ∧ x.tmod y + (y.natAbs : Int) = x % y) ∧ (¬ x.tmod y < 0 → x.tdiv y = x / y ∧ x.tmod y = x % y) := by
  have e1 := Int.mul_tdiv_add_tmod x y
  have e2 := Int.mul_ediv_add_emod x y
  have h1 := Int.emod_nonneg x h0
  have h2 : x % y < y.natAbs := Int.emod_lt x h0
  have h3 : (x.tmod y).natAbs < y.natAbs := by
    rw [Int.natAbs_tmod]; exact Nat.mod_lt _ (by omega)
  generalize x.tdiv y = q at *
  generalize x.tmod y = r at *
  generalize x / y = Q at *
  generalize x % y = R at *
  have key : y * (q - Q) = R - r := by grind
  have hb : ∀ k : Int, y * (q - Q) = R - r → (q - Q) = k → y * k = R - r := fun k h hk => by rw [← hk]; exact h
  have hd : q - Q ≤ 1 ∧ -1 ≤ q - Q := by
    constructor
    · rcases Int.lt_or_le 1 (q - Q) with h | h
      · exfalso
        have : 2 * y.natAbs ≤ (y * (q - Q)).natAbs := by rw [Int.natAbs_mul, Nat.mul_comm]; exact Nat.mul_le_mul_left _ (by omega)
        omega
      · exact h
    · rcases Int.lt_or_le (q - Q) (-1) with h | h
      · exfalso
        have : 2 * y.natAbs ≤ (y * (q - Q)).natAbs := by rw [Int.natAbs_mul, Nat.mul_comm]; exact Nat.mul_le_mul_left _ (by omega)
        omega
      · exact h
  have cases3 : q - Q = -1 ∨ q - Q = 0 ∨ q - Q = 1 := by omega
  rcases cases3 with h | h | h <;> rw [h] at key <;> constructor <;> intro hr <;> (try refine ⟨fun hy => ?_, fun hy => ?_, ?_⟩) <;> (try refine ⟨?_, ?_⟩) <;> omega

/-- One digit of a quotient, by halving. -/
def Bis (C r lo hi : Nat) : Prop := lo ≤ hi ∧ hi ≤ 9999 ∧ C * lo ≤ r ∧ r < C * (hi + 1)

theorem Bis.start {C r : Nat} (h : r < C * 10000) : Bis C r 0 9999 := ⟨by omega, by omega, by simp, h⟩
theorem Bis.up {C r lo hi m : Nat} (h : Bis C r lo hi) (hm : m = (lo + hi + 1) / 2) (hlt : lo < hi) (hle : C * m ≤ r) : Bis C r m hi := ⟨by omega, h.2.1, hle, h.2.2.2⟩
theorem Bis.down {C r lo hi m : Nat} (h : Bis C r lo hi) (hm : m = (lo + hi + 1) / 2) (hlt : lo < hi) (hle : ¬ C * m ≤ r) : Bis C r lo (m - 1) := by
  refine ⟨by omega, by have := h.2.1; omega, h.2.2.1, ?_⟩
  have : m - 1 + 1 = m := by omega
  rw [this]; omega
theorem Bis.done {C r lo hi : Nat} (h : Bis C r lo hi) (hlt : ¬ lo < hi) : C * lo ≤ r ∧ r - C * lo < C ∧ lo ≤ 9999 := by
  have e : lo = hi := by have := h.1; omega
  subst e
  obtain ⟨_, h2, h3, h4⟩ := h
  rw [Nat.mul_add] at h4
  omega

/-- One more digit of a quotient. -/
theorem quot_step {B C Q R a up low : Nat} (h : up = Q * C + R) (hl : C * low ≤ a + B * R) : a + B * up = (low + B * Q) * C + (a + B * R - C * low) := by
  have e1 : B * up = B * Q * C + B * R := by rw [h, Nat.mul_add, Nat.mul_assoc]
  have e2 : (low + B * Q) * C = low * C + B * Q * C := by rw [Nat.add_mul]
  have e3 : C * low = low * C := Nat.mul_comm _ _
  omega

theorem quot_room {B C R a : Nat} (hR : R < C) (ha : a < B) : a + B * R < C * B := by
  have : (R + 1) * B ≤ C * B := Nat.mul_le_mul_right _ hR
  rw [Nat.add_mul, Nat.mul_comm R B] at this
  omega

theorem quot_uniq {x y q r : Int} (h : y * q + r = x) (h0 : 0 ≤ r) (h1 : r < y.natAbs) : x / y = q ∧ x % y = r := by
  have hy : y ≠ 0 := by intro e; rw [e] at h1; simp at h1; omega
  have e2 := Int.mul_ediv_add_emod x y
  have g1 := Int.emod_nonneg x hy
  have g2 : x % y < y.natAbs := Int.emod_lt x hy
  generalize x / y = q' at *
  generalize x % y = r' at *
  have key : y * (q' - q) = r - r' := by grind
  have hq : q' - q = 0 := by
    rcases Nat.eq_zero_or_pos (q' - q).natAbs with h | h
    · omega
    · exfalso
      have : y.natAbs * 1 ≤ (y * (q' - q)).natAbs := by rw [Int.natAbs_mul]; exact Nat.mul_le_mul_left _ h
      omega
  rw [hq] at key
  omega

/-- Quotient and remainder out of those of the absolute values. -/
theorem signed_quot {x y : Int} {Q R C : Nat} (a b : Bool) (ha : a = true ↔ x < 0) (hb : b = true ↔ y < 0) (hC : C = y.natAbs) (h : x.natAbs = Q * C + R) (hR : R < C) :
    ((a = false ∨ R = 0) → x / y = (if (a != b) then -(Q : Int) else (Q : Int)) ∧ x % y = R) ∧
    (a = true → R ≠ 0 → x / y = (if b then (Q : Int) + 1 else -(Q : Int) - 1) ∧ x % y = (C : Int) - R) := by
  have hQC : ((Q * C + R : Nat) : Int) = (C : Int) * (Q : Int) + R := by rw [Int.natCast_add, Int.natCast_mul, Int.mul_comm]
  have hxa : a = false → x = (C : Int) * (Q : Int) + R := fun e => by rw [← hQC, ← h]; rw [e] at ha; simp at ha; omega
  have hxb : a = true → x = -((C : Int) * (Q : Int) + R) := fun e => by rw [← hQC, ← h]; have := ha.1 e; omega
  have hya : b = false → y = (C : Int) := fun e => by rw [e] at hb; simp at hb; omega
  have hyb : b = true → y = -(C : Int) := fun e => by have := hb.1 e; omega
  refine ⟨fun hc => ?_, fun e hR0 => ?_⟩
  · cases a
    · cases b
      · refine quot_uniq ?_ (by omega) (by omega)
        rw [hya rfl, hxa rfl]; simp
      · refine quot_uniq ?_ (by omega) (by omega)
        rw [hyb rfl, hxa rfl]; simp; try grind
    · have hR0 : R = 0 := by
        rcases hc with h | h
        · cases h
        · exact h
      subst hR0
      cases b
      · refine quot_uniq ?_ (by omega) (by omega)
        rw [hya rfl, hxb rfl]; simp; try grind
      · refine quot_uniq ?_ (by omega) (by omega)
        rw [hyb rfl, hxb rfl]; simp; try grind
  · subst e
    cases b
    · refine quot_uniq ?_ (by omega) (by omega)
      rw [hya rfl, hxb rfl]; simp; grind
    · refine quot_uniq ?_ (by omega) (by omega)
      rw [hyb rfl, hxb rfl]; simp; grind

end Go.Proofs.YtimcbmgmngkagaaGreatDoor

namespace Go.Proofs.YtimcbmgmngkagaaGreatDoor
open Go.RowKit

theorem append_none_any {P : Program} {W : World} {base : Nat} {t ty e : TypeId} {i : TypeInfo} {size : Nat} (ht : P.underlying t = some (.slice e)) (hi : P.info? e = some i) {v : Value} {n : Nat} {xs : List Value} (h : W.ownsRow base e size v n xs) (c : Nat) :
    (Builtin.append_ #[t, t] ty #[v, .slice none 0 c]).run P W = .ok v W := by
  rcases h.2 with ⟨rfl, rfl⟩ | ⟨g, cap, cur, rfl, _, _, hc, _⟩
  · simp [Builtin.append_, run_underlying ht, sizeOf, typeInfo, hi, Builtin.lenOf, Builtin.firstCells]
  · simp [Builtin.append_, run_underlying ht, sizeOf, typeInfo, hi, Builtin.lenOf, Builtin.firstCells, hc, storeCells]

theorem appI_law {ops : Array Oper} {Q : Exit → Act → World → Prop} {o : Oper} {rest : List Oper} {a : Act} {W : World} (hgd : o.guard = none) (s x : Operand)
    (ho : o.op = .call { callee := .builtin .append, args := #[s, x], argTypes := #[29, 29] }) {base : Nat} {v : Value} {ns : List Nat} (hs : a.eval s = v) (h : GrI W base v ns)
    {p : Option Addr} {m c : Nat} {xs : List Nat} (hx : a.eval x = .slice p m c) (hr : Rd .i64 W p m xs) (hl : ns.length ≤ 1000000000) (hm : m ≤ 1000000000) (hbase : base ≤ W.heap.size)
    (k : ∀ v' w', GrI w' base v' (ns ++ xs) → Below base W w' → wpList Tryz.prog ops Q rest (a.put o.dst v') w') : wpList Tryz.prog ops Q (o :: rest) a W := by
  obtain ⟨i0, hi, hz0, hz1, hz2⟩ := info_parts Tryz.info3
  cases p with
  | none =>
    have hm0 : m = 0 := by
      rcases Nat.eq_zero_or_pos m with e | e
      · exact e
      · obtain ⟨b, off, hp, _⟩ := hr.2 0 e; cases hp
    subst hm0
    have hxs : xs = [] := List.length_eq_zero_iff.1 hr.1
    subst hxs
    refine wpList_plain hgd fun K hK => ?_
    have hrun := append_none_any (P := Tryz.prog) (ty := o.type) Tryz.underlying29 hi h c
    unfold Oper.wp
    simp [execOp, ho, resolve, invoke, builtin, hs, hx, hrun, Result.andThen]
    exact hK _ _ (k v W (by rw [List.append_nil]; exact h) ((Below.refl _ _).mono hbase))
  | some ad =>
    refine wpList_append_own _ hgd s x 29 ho base 3 i0 (.int .i64 0) 1 8 Tryz.underlying29 hi hz0 hz1 hz2 rfl (by decide) v ns.length (icells ns) hs h ad m c (icells xs) hx (by unfold icells; rw [List.length_map, hr.1, Nat.mul_one])
      ?_ (by intro u hu; unfold icells at hu; obtain ⟨y, _, rfl⟩ := List.mem_map.1 hu; rfl) (by unfold maxLen; omega) (by omega) hbase ?_
    · intro j u hj
      unfold icells at hj
      rw [List.getElem?_map, Option.map_eq_some_iff] at hj
      obtain ⟨y, hy, rfl⟩ := hj
      obtain ⟨b, off, hp, _, hc⟩ := hr.2 j (by have := (List.getElem?_eq_some_iff.1 hy).1; rw [hr.1] at this; exact this)
      cases hp
      rw [hy] at hc
      rw [Lib.add_plain]
      exact hc
    · intro v' w' h2 h3 _
      refine k v' w' ?_ (below_of_own h h3 hbase)
      unfold GrI
      rw [List.length_append, icells_append, hr.1]
      exact h2

/-- A new row of one digit. -/
theorem GrI.one (W : World) (d : Nat) : GrI (W.alloc (.cells #[.int .i64 (d : Int)] 3)) W.heap.size (.slice (some ⟨W.heap.size, 0, none⟩) 1 1) [d] := by
  refine ⟨rfl, .inr ⟨W.heap.size, 1, #[.int .i64 (d : Int)], rfl, Nat.le_refl _, by unfold World.alloc; simp, Nat.le_refl _, by unfold maxLen; omega, rfl, rfl⟩⟩

end Go.Proofs.YtimcbmgmngkagaaGreatDoor

namespace Go.Proofs.YtimcbmgmngkagaaGreatDoor
open Go.RowKit
variable {P : Program} {Q : Exit → Act → World → Prop}

def upd (f : Nat → Value) (i : Nat) (v : Value) : Nat → Value := fun j => if j = i then v else f j

/-- Operation i waits for operation j. -/
def depB (l : List Oper) (i j : Nat) : Bool := ((l[i]?).map fun o => o.after.any fun e => Region.binds .any e && e.on == j).getD false

theorem depsB_dep {l : List Oper} {L : Nat → Bool} {i j : Nat} (h : depsB l L i = true) (hd : depB l i j = true) : L j = true := by
  unfold depsB depB at *
  cases ho : l[i]? with
  | none => rw [ho] at hd; cases hd
  | some o =>
    rw [ho] at h hd
    simp only [Option.map_some, Option.getD_some, Array.all_eq_true', Array.any_eq_true'] at h hd
    obtain ⟨e, he, h2⟩ := hd
    have h1 := h e he
    simp only [Bool.and_eq_true, beq_iff_eq] at h2
    rw [h2.1, h2.2] at h1
    simpa using h1

/-- What a region's operations have done so far. -/
def FlowI (l : List Oper) (n : Nat) (tm : (Nat → Value) → Act) (R : Nat → Value → World → Prop) (S : World → Prop) (D : Act → World → Prop) (L : Nat → Bool) (a : Act) (w : World) : Prop :=
  (∀ k, k < l.length → L k = true → depsB l L k = true) ∧ ((∃ f, a = tm f ∧ S w ∧ (∀ j, L j = true → j < n) ∧ ∀ j, L j = true → R j (f j) w) ∨ ((∀ j, j < l.length → L j = true) ∧ D a w))

theorem depsB_mono {l : List Oper} {L L' : Nat → Bool} {i : Nat} (h : depsB l L i = true) (hm : ∀ j, L j = true → L' j = true) : depsB l L' i = true := by
  unfold depsB at *
  cases ho : l[i]? with
  | none => rw [ho] at h; cases h
  | some o =>
    rw [ho] at h
    simp only [Option.map_some, Option.getD_some, Array.all_eq_true'] at h ⊢
    intro e he
    have := h e he
    simp only [Bool.or_eq_true] at this ⊢
    rcases this with h1 | h1
    · exact .inl h1
    · exact .inr (hm _ h1)

/-- Every operation but the last one is waited for. -/
def closB (l : List Oper) : Bool := (List.range (l.length - 1)).all fun j => (List.range l.length).any fun k => decide (j < k) && depB l k j

theorem clos_all {l : List Oper} (hC : closB l = true) {L : Nat → Bool} (hcl : ∀ k, k < l.length → L k = true → depsB l L k = true) (hlast : depsB l L (l.length - 1) = true) : ∀ m j, l.length - 1 - j ≤ m → j < l.length - 1 → L j = true := by
  intro m
  induction m with
  | zero => intro j h1 h2; omega
  | succ m ih =>
    intro j h1 h2
    have h3 := List.all_eq_true.1 hC j (List.mem_range.2 h2)
    obtain ⟨k, hk, h4⟩ := List.any_eq_true.1 h3
    rw [List.mem_range] at hk
    simp only [Bool.and_eq_true, decide_eq_true_eq] at h4
    by_cases e : k = l.length - 1
    · rw [e] at h4; exact depsB_dep hlast h4.2
    · exact depsB_dep (hcl k hk (ih k (by omega) (by omega))) h4.2

/-- The like, where the last operation, which waits for all others, may write what they have read. -/
theorem wp_region_flow_last {id : Nat} {l : List Oper} {w : World} (tm : (Nat → Value) → Act) (f0 : Nat → Value) (hm : P.follows .mixedOrders = true) (hE : earlierB l = true) (hC : closB l = true) (R : Nat → Value → World → Prop) (S : World → Prop) (hS : S w.drew)
    (mono : ∀ i v w w', S w → S w' → Below w.heap.size w w' → R i v w → R i v w')
    (step : ∀ i, i < l.length - 1 → ∀ f w', S w' → (∀ j, depB l i j = true → R j (f j) w') → wpOp P l.toArray Q i (fun a' w'' => ∃ v, a' = tm (upd f i v) ∧ R i v w'' ∧ S w'' ∧ Below w'.heap.size w' w'') (tm f) w')
    (last : ∀ f w', S w' → (∀ j, j < l.length - 1 → R j (f j) w') → wpOp P l.toArray Q (l.length - 1) (Q .normal) (tm f) w') : (Code.region id l.toArray true).wp P Q (tm f0) w := by
  refine wp_region_inv hm hE (FlowI l (l.length - 1) tm R S (Q .normal)) ⟨fun _ _ h => (by cases h), .inl ⟨f0, rfl, hS, fun _ h => (by cases h), fun _ h => (by cases h)⟩⟩ ?_ ?_
  · rintro L i a w' ⟨hcl, hI⟩ hi hL hd
    have hcl' : ∀ k, k < l.length → (L k || k == i) = true → depsB l (fun j => L j || j == i) k = true := fun k hk hk2 => by
      have hmn : ∀ j, L j = true → (L j || j == i) = true := fun j h => by rw [h]; rfl
      by_cases e : k = i
      · rw [e]; exact depsB_mono hd hmn
      · exact depsB_mono (hcl k hk (by simpa [e] using hk2)) hmn
    rcases hI with ⟨f, rfl, hs, hlt, hr⟩ | ⟨hall, _⟩
    · by_cases hil : i < l.length - 1
      · refine wpOp_mono (fun a' w'' h => ?_) (step i hil f w' hs (fun j hj => hr j (depsB_dep hd hj)))
        obtain ⟨v, rfl, hv, hs', hb⟩ := h
        refine ⟨hcl', .inl ⟨_, rfl, hs', fun j hj => ?_, fun j hj => ?_⟩⟩
        · by_cases e : j = i
          · rw [e]; exact hil
          · exact hlt j (by simpa [e] using hj)
        · by_cases e : j = i
          · subst e; simp only [upd, if_true]; exact hv
          · simp only [upd, if_neg e]
            refine mono _ _ _ _ hs hs' hb (hr j ?_)
            simpa [e] using hj
      · have e : i = l.length - 1 := by omega
        subst e
        have hall := fun j hj => clos_all hC hcl hd (l.length - 1 - j) j (Nat.le_refl _) hj
        refine wpOp_mono (fun a' w'' h => ?_) (last f w' hs (fun j hj => hr j (hall j hj)))
        refine ⟨hcl', .inr ⟨fun j hj => ?_, h⟩⟩
        by_cases e : j = l.length - 1
        · simp [e]
        · simp [hall j (by omega)]
    · rw [hall i hi] at hL; cases hL
  · rintro L a w' hall ⟨_, hI⟩
    rcases hI with ⟨f, rfl, hs, hlt, hr⟩ | ⟨_, h⟩
    · by_cases hn : l.length = 0
      · have hnil : l = [] := List.length_eq_zero_iff.1 hn
        subst hnil
        have := last f w' hs (fun j hj => by simp at hj)
        simpa [wpOp] using this
      · have := hlt (l.length - 1) (hall _ (by omega))
        omega
    · exact h

/-- The frame with what the region's operations have yielded. -/
def putAll : Array Value → List (Option Nat) → Nat → (Nat → Value) → Array Value
  | t, [], _, _ => t
  | t, some d :: r, k, f => putAll (t.setIfInBounds d (f k)) r (k + 1) f
  | t, none :: r, k, f => putAll t r (k + 1) f

def slotsOf (t : Array Value) (ds : List (Option Nat)) (k : Nat) : Nat → Value := fun j => ((ds[j - k]?).bind fun d => d.bind fun i => t[i]?).getD undef

theorem set_same (t : Array Value) (d : Nat) (v : Value) (h : t[d]? = some v) : t.setIfInBounds d v = t := by
  apply Array.ext
  · simp
  · intro i h1 h2
    rw [Array.getElem_setIfInBounds h2]
    split
    · rename_i e
      subst e
      rw [Array.getElem?_eq_getElem h2] at h
      exact (Option.some.inj h).symm
    · rfl

theorem putAll_same (t : Array Value) : ∀ (ds : List (Option Nat)) (k : Nat) (f : Nat → Value), (∀ i d, ds[i]? = some (some d) → d < t.size → t[d]? = some (f (k + i))) → putAll t ds k f = t := by
  intro ds
  induction ds with
  | nil => intro k f _; rfl
  | cons o r ih =>
    intro k f h
    have hr : ∀ i d, r[i]? = some (some d) → d < t.size → t[d]? = some (f (k + 1 + i)) := fun i d h1 h2 => by
      have := h (i + 1) d h1 h2
      rw [show k + (i + 1) = k + 1 + i by omega] at this
      exact this
    cases o with
    | none => exact ih (k + 1) f hr
    | some d =>
      unfold putAll
      have e : t.setIfInBounds d (f k) = t := by
        by_cases hd : d < t.size
        · exact set_same t d _ (h 0 d rfl hd)
        · apply Array.ext
          · simp
          · intro i h1 h2
            rw [Array.getElem_setIfInBounds h2, if_neg (by omega)]
      rw [e]
      exact ih (k + 1) f hr

def tmOf (a : Act) (l : List Oper) (f : Nat → Value) : Act := { a with tmps := putAll a.tmps (l.map (·.dst)) 0 f }

theorem tmOf_same (a : Act) (l : List Oper) : tmOf a l (slotsOf a.tmps (l.map (·.dst)) 0) = a := by
  unfold tmOf
  rw [putAll_same]
  intro i d h1 h2
  unfold slotsOf
  rw [Nat.zero_add, Nat.sub_zero, h1]
  simp [h2]

theorem wp_region_flow_last' {id : Nat} {l : List Oper} {a : Act} {w : World} (hm : P.follows .mixedOrders = true) (hE : earlierB l = true) (hC : closB l = true) (R : Nat → Value → World → Prop) (S : World → Prop) (hS : S w.drew)
    (mono : ∀ i v w w', S w → S w' → Below w.heap.size w w' → R i v w → R i v w')
    (step : ∀ i, i < l.length - 1 → ∀ f w', S w' → (∀ j, depB l i j = true → R j (f j) w') → wpOp P l.toArray Q i (fun a' w'' => ∃ v, a' = tmOf a l (upd f i v) ∧ R i v w'' ∧ S w'' ∧ Below w'.heap.size w' w'') (tmOf a l f) w')
    (last : ∀ f w', S w' → (∀ j, j < l.length - 1 → R j (f j) w') → wpOp P l.toArray Q (l.length - 1) (Q .normal) (tmOf a l f) w') : (Code.region id l.toArray true).wp P Q a w := by
  have h := wp_region_flow_last (Q := Q) (id := id) (w := w) (tmOf a l) (slotsOf a.tmps (l.map (·.dst)) 0) hm hE hC R S hS mono step last
  rw [tmOf_same] at h
  exact h

/-- One operation behind the other. -/
def seqW (P : Program) (l : List Oper) (Q : Exit → Act → World → Prop) : Nat → Nat → Act → World → Prop
  | 0, _ => Q .normal
  | r + 1, k => wpOp P l.toArray Q k (seqW P l Q r (k + 1))

/-- Each operation from n0 on waits for all that stand before it. -/
def tailB (l : List Oper) (n0 : Nat) : Bool := (List.range l.length).all fun k => decide (k < n0) || ((List.range k).all fun j => (List.range (k + 1)).any fun m => decide (j < m) && depB l m j)

theorem tail_all {l : List Oper} {n0 i : Nat} (hT : tailB l n0 = true) (hi : i < l.length) (hn : n0 ≤ i) {L : Nat → Bool} (hcl : ∀ k, k < l.length → L k = true → depsB l L k = true) (hlast : depsB l L i = true) : ∀ m j, i - j ≤ m → j < i → L j = true := by
  intro m
  induction m with
  | zero => intro j h1 h2; omega
  | succ m ih =>
    intro j h1 h2
    have h3 := List.all_eq_true.1 hT i (List.mem_range.2 hi)
    simp only [Bool.or_eq_true, decide_eq_true_eq] at h3
    rcases h3 with h3 | h3
    · omega
    · have h4 := List.all_eq_true.1 h3 j (List.mem_range.2 h2)
      obtain ⟨k, hk, h5⟩ := List.any_eq_true.1 h4
      rw [List.mem_range] at hk
      simp only [Bool.and_eq_true, decide_eq_true_eq] at h5
      by_cases e : k = i
      · rw [e] at h5; exact depsB_dep hlast h5.2
      · exact depsB_dep (hcl k (by omega) (ih k (by omega) (by omega))) h5.2

theorem wp_region_flow_tail {id : Nat} {l : List Oper} {w : World} (n0 : Nat) (tm : (Nat → Value) → Act) (f0 : Nat → Value) (hm : P.follows .mixedOrders = true) (hE : earlierB l = true) (hT : tailB l n0 = true) (hn0 : n0 < l.length) (R : Nat → Value → World → Prop) (S : World → Prop) (hS : S w.drew)
    (mono : ∀ i v w w', S w → S w' → Below w.heap.size w w' → R i v w → R i v w')
    (step : ∀ i, i < n0 → ∀ f w', S w' → (∀ j, depB l i j = true → R j (f j) w') → wpOp P l.toArray Q i (fun a' w'' => ∃ v, a' = tm (upd f i v) ∧ R i v w'' ∧ S w'' ∧ Below w'.heap.size w' w'') (tm f) w')
    (last : ∀ f w', S w' → (∀ j, j < n0 → R j (f j) w') → seqW P l Q (l.length - n0) n0 (tm f) w') : (Code.region id l.toArray true).wp P Q (tm f0) w := by
  refine wp_region_inv hm hE (fun L a w => (∀ k, k < l.length → L k = true → depsB l L k = true) ∧ ((∃ f, a = tm f ∧ S w ∧ (∀ j, L j = true → j < n0) ∧ ∀ j, L j = true → R j (f j) w) ∨ (∃ k, n0 < k ∧ k ≤ l.length ∧ (∀ j, j < l.length → (L j = true ↔ j < k)) ∧ seqW P l Q (l.length - k) k a w)))
    ⟨fun _ _ h => (by cases h), .inl ⟨f0, rfl, hS, fun _ h => (by cases h), fun _ h => (by cases h)⟩⟩ ?_ ?_
  · rintro L i a w' ⟨hcl, hI⟩ hi hL hd
    have hcl' : ∀ k, k < l.length → (L k || k == i) = true → depsB l (fun j => L j || j == i) k = true := fun k hk hk2 => by
      have hmn : ∀ j, L j = true → (L j || j == i) = true := fun j h => by rw [h]; rfl
      by_cases e : k = i
      · rw [e]; exact depsB_mono hd hmn
      · exact depsB_mono (hcl k hk (by simpa [e] using hk2)) hmn
    rcases hI with ⟨f, rfl, hs, hlt, hr⟩ | ⟨k, hk1, hk2, hk3, hk4⟩
    · by_cases hil : i < n0
      · refine wpOp_mono (fun a' w'' h => ?_) (step i hil f w' hs (fun j hj => hr j (depsB_dep hd hj)))
        obtain ⟨v, rfl, hv, hs', hb⟩ := h
        refine ⟨hcl', .inl ⟨_, rfl, hs', fun j hj => ?_, fun j hj => ?_⟩⟩
        · by_cases e : j = i
          · rw [e]; exact hil
          · exact hlt j (by simpa [e] using hj)
        · by_cases e : j = i
          · subst e; simp only [upd, if_true]; exact hv
          · simp only [upd, if_neg e]
            refine mono _ _ _ _ hs hs' hb (hr j ?_)
            simpa [e] using hj
      · have hall := fun j hj => tail_all hT hi (by omega) hcl hd (i - j) j (Nat.le_refl _) hj
        have e : i = n0 := by
          rcases Nat.lt_or_ge n0 i with h | h
          · have := hlt n0 (hall n0 h); omega
          · omega
        subst e
        have hl := last f w' hs (fun j hj => hr j (hall j hj))
        rw [show l.length - i = (l.length - (i + 1)) + 1 by omega] at hl
        refine wpOp_mono (fun a' w'' h => ?_) hl
        refine ⟨hcl', .inr ⟨i + 1, by omega, by omega, fun j hj => ?_, h⟩⟩
        by_cases e : j = i
        · simp [e]
        · constructor
          · intro h
            have := hlt j (by simpa [e] using h)
            omega
          · intro h
            show (L j || j == i) = true
            rw [hall j (by omega)]; rfl
    · have hall := fun j hj => tail_all hT hi (by have : ¬ i < k := fun h => by rw [(hk3 i hi).2 h] at hL; cases hL
                                                  omega) hcl hd (i - j) j (Nat.le_refl _) hj
      have hik : ¬ i < k := fun h => by rw [(hk3 i hi).2 h] at hL; cases hL
      have e : i = k := by
        rcases Nat.lt_or_ge k i with h | h
        · have := (hk3 k (by omega)).1 (hall k h); omega
        · omega
      subst e
      rw [show l.length - i = (l.length - (i + 1)) + 1 by omega] at hk4
      refine wpOp_mono (fun a' w'' h => ?_) hk4
      refine ⟨hcl', .inr ⟨i + 1, by omega, by omega, fun j hj => ?_, h⟩⟩
      by_cases e : j = i
      · simp [e]
      · constructor
        · intro h
          have := (hk3 j hj).1 (by simpa [e] using h)
          omega
        · intro h
          show (L j || j == i) = true
          rw [hall j (by omega)]; rfl
  · rintro L a w' hall ⟨_, hI⟩
    rcases hI with ⟨f, rfl, hs, hlt, hr⟩ | ⟨k, hk1, hk2, hk3, hk4⟩
    · have := hlt n0 (hall n0 hn0)
      omega
    · have e : k = l.length := by
        rcases Nat.lt_or_ge k l.length with h | h
        · have := (hk3 k h).1 (hall k h); omega
        · omega
      subst e
      rw [Nat.sub_self] at hk4
      exact hk4

theorem wp_region_flow_tail' {id : Nat} {l : List Oper} {a : Act} {w : World} (n0 : Nat) (hm : P.follows .mixedOrders = true) (hE : earlierB l = true) (hT : tailB l n0 = true) (hn0 : n0 < l.length) (R : Nat → Value → World → Prop) (S : World → Prop) (hS : S w.drew)
    (mono : ∀ i v w w', S w → S w' → Below w.heap.size w w' → R i v w → R i v w')
    (step : ∀ i, i < n0 → ∀ f w', S w' → (∀ j, depB l i j = true → R j (f j) w') → wpOp P l.toArray Q i (fun a' w'' => ∃ v, a' = tmOf a l (upd f i v) ∧ R i v w'' ∧ S w'' ∧ Below w'.heap.size w' w'') (tmOf a l f) w')
    (last : ∀ f w', S w' → (∀ j, j < n0 → R j (f j) w') → seqW P l Q (l.length - n0) n0 (tmOf a l f) w') : (Code.region id l.toArray true).wp P Q a w := by
  have h := wp_region_flow_tail (Q := Q) (id := id) (w := w) n0 (tmOf a l) (slotsOf a.tmps (l.map (·.dst)) 0) hm hE hT hn0 R S hS mono step last
  rw [tmOf_same] at h
  exact h

end Go.Proofs.YtimcbmgmngkagaaGreatDoor

namespace Go.Proofs.YtimcbmgmngkagaaGreatDoor
open Go.RowKit
attribute [local go_sem] Oper.semAt_some

theorem RIs.lt {w : World} {neg : Bool} {p : Option Addr} {n c : Nat} {xs : List Nat} {z : Int} (h : RIs w neg p n c xs z) : z.natAbs < BR ^ n := by
  have h1 := dv_lt h.cn.1
  rw [h.rd.1] at h1
  rw [h.val, sv_natAbs]
  exact h1
theorem RIs.len_le {w : World} {neg : Bool} {p : Option Addr} {n c : Nat} {xs : List Nat} {z : Int} (h : RIs w neg p n c xs z) {L : Nat} (hz : z.natAbs < BR ^ L) : n ≤ L := by
  have := h.cn.length_le (b := BR) (by decide) (m := L) (by rw [h.val, sv_natAbs] at hz; exact hz)
  rw [h.rd.1] at this
  exact this
theorem RIs.neg_iff {w : World} {neg : Bool} {p : Option Addr} {n c : Nat} {xs : List Nat} {z : Int} (h : RIs w neg p n c xs z) : neg = true ↔ z < 0 := by
  have hp : 0 < n → 0 < dv BR xs := fun e => h.cn.pos (by decide) (by intro e2; have := h.rd.1; rw [e2] at this; simp at this; omega)
  have hv := h.val
  constructor
  · intro e
    have := hp (h.pos e)
    rw [hv, e]
    simp [sv]; omega
  · intro e
    cases neg
    · rw [hv] at e; simp [sv] at e; omega
    · rfl
theorem RIs.zero_iff {w : World} {neg : Bool} {p : Option Addr} {n c : Nat} {xs : List Nat} {z : Int} (h : RIs w neg p n c xs z) : z = 0 ↔ n = 0 := by
  constructor
  · intro e
    have := h.len_le (L := 0) (by rw [e]; simp)
    omega
  · intro e
    have := h.lt
    rw [e] at this
    simp at this
    exact this

theorem RIs.setAt {W : World} {neg : Bool} {p : Option Addr} {n c : Nat} {xs : List Nat} {z : Int} (h : RIs W neg p n c xs z) {B i : Nat} {u : Value} (hu : W.cell? ⟨B, i, none⟩ = some u) (hne : ∀ x, u ≠ .int .i64 x) (v : Value) : RIs (W.setCell ⟨B, i, none⟩ v) neg p n c xs z := { h with rd := h.rd.setOther hu hne v }
/-- A number is stored into a variable. -/
theorem RIs.setBox {W : World} {neg : Bool} {p : Option Addr} {n c : Nat} {xs : List Nat} {z : Int} (h : RIs W neg p n c xs z) {B : Nat} {b0 : Bool} {p0 : Option Addr} {n0 c0 : Nat} {t : TypeId} (hk : Blk W B #[.bool b0, .slice p0 n0 c0] t) (b1 : Bool) (v1 : Value) : RIs ((W.setCell ⟨B, 0, none⟩ (.bool b1)).setCell ⟨B, 1, none⟩ v1) neg p n c xs z :=
  (h.setAt (hk.cell (i := 0) rfl) (by intro x e; cases e) _).setAt ((hk.set_eq 0 (.bool b1) rfl).cell (i := 1) rfl) (by intro x e; cases e) _

/-- What a division hands back. -/
def DivR (w : World) (x y : Int) (e : Ending) (w' : World) : Prop :=
  ∃ a p n c xs b q m d ys, e = .returned (.tuple #[.agg #[.bool a, .slice p n c], .agg #[.bool b, .slice q m d]]) ∧ RIs w' a p n c xs (x / y) ∧ RIs w' b q m d ys (x % y) ∧ Below w.heap.size w w'

set_option maxRecDepth 100000 in
set_option maxHeartbeats 2000000 in
theorem rabs_any (neg : Bool) (p : Option Addr) (n c : Nat) (xs : List Nat) (z : Int) (w : World) (hn : n ≤ 1000000000) (hx : RIs w neg p n c xs z) :
    Calls Tryz.prog 63 #[.agg #[.bool neg, .slice p n c]] w (RV w (z.natAbs : Int) n) := by
  have hb0 : Below w.heap.size w ((w.alloc (.cells #[.bool neg, .slice p n c] 31)).alloc (.cells #[.bool false, .slice none 0 0] 31)) := ((Below.refl _ w).alloc (Nat.le_refl _) _).alloc (by simp) _
  have b1 : Boxed2 ((w.alloc (.cells #[.bool neg, .slice p n c] 31)).alloc (.cells #[.bool false, .slice none 0 0] 31)) (w.heap.size + 1) (.bool false) (.slice none 0 0) 31 := by
    have := Boxed2.new (w.alloc (.cells #[.bool neg, .slice p n c] 31)) (.bool false) (.slice none 0 0) 31
    simpa using this
  have hx1 := hx.below hb0
  have HX := Lib.hid hx
  go_enter Tryz.func63, Tryz.ntmps63
  go_wp2_with (go_at_call 72; refine (rnumber_any _ _ _ _ xs _ (by unfold maxLen; omega) hx1.cap hx1.rd hx1.cn.1).mono ?_; rintro e w2 ⟨neg2, p2, n2, c2, xs2, rfl, hx2, hn2, hb2⟩; have b2 := b1.below hb2 b1.lt; have c20 := b2.cell0; have c21 := b2.cell1; have q20 := b2.frozen (i := 0); have q21 := b2.frozen (i := 1))
  have b3 := b2.set (.bool neg2) (.slice p2 n2 c2)
  have z0 := b3.cell0
  have z1 := b3.cell1
  refine bodyPost_ret (v := .agg #[.bool neg2, .slice p2 n2 c2]) (by simp [results, Tryz.results63, go_sem, z0, z1]) rfl ⟨neg2, p2, n2, c2, xs2, rfl, { rd := (hx2.rd.boxI b2 _).boxI (b2.set0 _) _, cap := hx2.cap, cn := hx2.cn, pos := hx2.pos, val := ?_ }, hn2, ((hb0.trans (hb2.mono hb0.size)).setCell (by simp) _).setCell (by simp) _⟩
  rw [← hx2.val, HX.out.val, sv_natAbs]
  rfl

theorem ten16 : BR ^ 4 = 10000000000000000 := by decide
theorem RIs.int {w : World} {neg : Bool} {p : Option Addr} {n c : Nat} {xs : List Nat} {z : Int} (h : RIs w neg p n c xs z) (hn : n ≤ 4) : inI64 z = true ∧ intV z = z ∧ -10000000000000000 < z ∧ z < 10000000000000000 := by
  have h1 := h.lt
  have h2 : BR ^ n ≤ BR ^ 4 := Nat.pow_le_pow_right (by decide) hn
  rw [ten16] at h2
  have h3 : inI64 z = true := by unfold inI64; simp; omega
  refine ⟨h3, ?_, by omega, by omega⟩
  unfold intV
  rw [h3]
  rfl

set_option maxRecDepth 100000 in
set_option maxHeartbeats 4000000 in
theorem rdiv_small (a b : Bool) (p q : Option Addr) (n c m d : Nat) (xs ys : List Nat) (x y : Int) (w : World) (hn : n ≤ 4) (hm : m ≤ 4) (hx : RIs w a p n c xs x) (hy : RIs w b q m d ys y) (hy0 : y ≠ 0) :
    Calls Tryz.prog 20 #[.agg #[.bool a, .slice p n c], .agg #[.bool b, .slice q m d]] w (DivR w x y) := by
  obtain ⟨ix, vx, x0, x1⟩ := hx.int hn
  obtain ⟨iy, vy, y0, y1⟩ := hy.int hm
  obtain ⟨s1, s2⟩ := small_quot (x := x) hy0
  have hni : (n : Int) ≤ 4 := by omega
  have hmi : (m : Int) ≤ 4 := by omega
  obtain ⟨w1, hw1⟩ : ∃ w1, ((((w.alloc (.cells #[.bool a, .slice p n c] 31)).alloc (.cells #[.bool b, .slice q m d] 31)).alloc (.cells #[.bool false, .slice none 0 0] 31)).alloc (.cells #[.bool false, .slice none 0 0] 31)) = w1 := ⟨_, rfl⟩
  have hb1 : Below w.heap.size w w1 := by
    rw [← hw1]
    exact ((((Below.refl _ w).alloc (Nat.le_refl _) _).alloc (by simp) _).alloc (by rw [World.size_alloc, World.size_alloc]; omega) _).alloc (by rw [World.size_alloc, World.size_alloc, World.size_alloc]; omega) _
  have k0 : Blk w1 w.heap.size #[.bool a, .slice p n c] 31 := by
    rw [← hw1]; exact (((Blk.new w _ _).alloc _).alloc _).alloc _
  have k1 : Blk w1 (w.heap.size + 1) #[.bool b, .slice q m d] 31 := by
    rw [← hw1]; exact ((Blk.new' _ _ _ (by simp)).alloc _).alloc _
  have k2 : Blk w1 (w.heap.size + 1 + 1) #[.bool false, .slice none 0 0] 31 := by
    rw [← hw1]; exact (Blk.new' _ _ _ (by simp)).alloc _
  have k3 : Blk w1 (w.heap.size + 1 + 1 + 1) #[.bool false, .slice none 0 0] 31 := by
    rw [← hw1]; exact Blk.new' _ _ _ (by simp)
  have c0 := k0.cell (i := 0) rfl
  have c1 := k0.cell (i := 1) rfl
  have c2 := k1.cell (i := 0) rfl
  have c3 := k1.cell (i := 1) rfl
  have hx1 := hx.below hb1
  have hy1 := hy.below hb1
  go_enter Tryz.func20, Tryz.ntmps20
  go_wp2_with fail
  refine (rint_any a p n c xs x _ (by omega) hx1).mono ?_
  rintro e w2 ⟨rfl, hb2⟩
  rw [ix, vx]
  have k1 := k1.kept hb2
  have c2 := k1.cell (i := 0) rfl
  have c3 := k1.cell (i := 1) rfl
  have hy2 := hy1.below hb2
  go_wp2_with fail
  refine (rint_any b q m d ys y _ (by omega) hy2).mono ?_
  rintro e w3 ⟨rfl, hb3⟩
  rw [iy, vy]
  have hbw := (hb1.trans (hb2.mono hb1.size)).trans (hb3.mono (Nat.le_trans hb1.size hb2.size))
  have k2 := (k2.kept hb2).kept hb3
  have k3 := (k3.kept hb2).kept hb3
  obtain ⟨M, hM⟩ : ∃ M, x.tdiv y = M := ⟨_, rfl⟩
  obtain ⟨N, hN⟩ : ∃ N, x.tmod y = N := ⟨_, rfl⟩
  have bM : M.natAbs ≤ x.natAbs := by rw [← hM, Int.natAbs_tdiv]; exact Nat.div_le_self _ _
  have bN : N.natAbs ≤ x.natAbs := by rw [← hN, Int.natAbs_tmod]; exact Nat.mod_le _ _
  have m0 : -10000000000000000 < M := by omega
  have m1 : M < 10000000000000000 := by omega
  have n0 : -10000000000000000 < N := by omega
  have n1 : N < 10000000000000000 := by omega
  rw [hM, hN] at s1 s2
  have S1 := Lib.hid s1
  have S2 := Lib.hid s2
  clear s1 s2 bM bN ix vx iy vy hx hy hx1 hy1 hy2
  clear c0 c1 c2 c3 hb2 hb3 hb1 hw1
  go_wp2_with fail
  go_quiet (fail)
  go_upto_if 48 with fail
  go_cut [10, 11] from 47 to 60 (fun v10 v11 wx => v10 = .int .i64 (x / y) ∧ v11 = .int .i64 (x % y) ∧ Below w3.heap.size w3 wx)
  case first =>
    have hbd : ∀ k, Below w3.heap.size w3 (w3.drewN k) := fun k => ⟨rfl, rfl, rfl, Nat.le_refl _, fun _ _ => rfl⟩
    by_cases hneg : N < 0
    · obtain ⟨t1, t2, t3⟩ := S1.out hneg
      have hmx : max y (-y) = (y.natAbs : Int) := by omega
      rcases Int.lt_or_le y 0 with h | h
      · have ht := t2 h
        have hy1 : ¬ (0 < y) := by omega
        clear t1 t2
        have HT3 := Lib.hid t3
        have HT := Lib.hid ht
        clear t3 ht
        go_wp2_with fail
        go_meet
        case rel => exact ⟨congrArg (Value.int .i64) HT.out, congrArg (Value.int .i64) HT3.out, hbd _⟩
      · have ht := t1 (by omega)
        have hy1 : 0 < y := by omega
        clear t1 t2
        have HT3 := Lib.hid t3
        have HT := Lib.hid ht
        clear t3 ht
        go_wp2_with fail
        go_meet
        case rel => exact ⟨congrArg (Value.int .i64) HT.out, congrArg (Value.int .i64) HT3.out, hbd _⟩
    · obtain ⟨t1, t2⟩ := S2.out (by omega)
      have HT3 := Lib.hid t2
      have HT := Lib.hid t1
      clear t1 t2
      go_wp2_with fail
      go_meet
      case rel => exact ⟨congrArg (Value.int .i64) HT.out, congrArg (Value.int .i64) HT3.out, hbd _⟩
  case rest =>
    obtain ⟨rfl, rfl, hbc⟩ := hcut
    have k2 := k2.kept hbc
    have k3 := k3.kept hbc
    have hbC := hbw.trans (hbc.mono hbw.size)
    have bq : (x / y).natAbs ≤ x.natAbs := Int.natAbs_ediv_le_natAbs _ _
    have br := Int.emod_nonneg x hy0
    have br2 : x % y < y.natAbs := Int.emod_lt x hy0
    go_wp2_with fail
    refine (from_any _ (by omega) (by omega) _).mono ?_
    rintro e w4 ⟨a4, p4, n4, c4, xs4, rfl, hz4, _, hb4⟩
    have hb4' := hbC.trans (hb4.mono hbC.size)
    go_wp2_with fail
    refine (from_any _ (by omega) (by omega) _).mono ?_
    rintro e w5 ⟨a5, p5, n5, c5, xs5, rfl, hz5, _, hb5⟩
    have hb5' := hb4'.trans (hb5.mono hb4'.size)
    have k2 := (k2.kept hb4).kept hb5
    have k3 := (k3.kept hb4).kept hb5
    have hz4 := hz4.below hb5
    have e0 := k2.cell (i := 0) rfl
    have e1 := k2.cell (i := 1) rfl
    have e2 := k3.cell (i := 0) rfl
    have e3 := k3.cell (i := 1) rfl
    have f0 := k2.frozen 0
    have f1 := k2.frozen 1
    have f2 := k3.frozen 0
    have f3 := k3.frozen 1
    go_wp2_with fail
    have g2 := k2.set_eq 0 (.bool a4) rfl |>.set_eq 1 (.slice p4 n4 c4) rfl
    have K2 := (g2.other (C := w.heap.size + 1 + 1 + 1) 0 (.bool a5) (by omega)).other (C := w.heap.size + 1 + 1 + 1) 1 (.slice p5 n5 c5) (by omega)
    have K3 := (((k3.other (C := w.heap.size + 1 + 1) 0 (.bool a4) (by omega)).other (C := w.heap.size + 1 + 1) 1 (.slice p4 n4 c4) (by omega)).set_eq 0 (.bool a5) rfl).set_eq 1 (.slice p5 n5 c5) rfl
    have r0 := K2.cell (i := 0) rfl
    have r1 := K2.cell (i := 1) rfl
    have r2 := K3.cell (i := 0) rfl
    have r3 := K3.cell (i := 1) rfl
    refine bodyPost_ret (v := .tuple #[.agg #[.bool a4, .slice p4 n4 c4], .agg #[.bool a5, .slice p5 n5 c5]]) (by simp [results, Tryz.results20, go_sem, r0, r1, r2, r3]) rfl ⟨a4, p4, n4, c4, xs4, a5, p5, n5, c5, xs5, rfl, ?_, ?_, ?_⟩
    · exact (hz4.setBox k2 a4 _).setBox ((k3.other (C := w.heap.size + 1 + 1) 0 (.bool a4) (by omega)).other (C := w.heap.size + 1 + 1) 1 (.slice p4 n4 c4) (by omega)) a5 _
    · exact (hz5.setBox k2 a4 _).setBox ((k3.other (C := w.heap.size + 1 + 1) 0 (.bool a4) (by omega)).other (C := w.heap.size + 1 + 1) 1 (.slice p4 n4 c4) (by omega)) a5 _
    · exact (((hb5'.setCell (by simp <;> omega) _).setCell (by simp <;> omega) _).setCell (by simp <;> omega) _).setCell (by simp <;> omega) _

end Go.Proofs.YtimcbmgmngkagaaGreatDoor
