/-
  int64 to string and back; The reference: the string of an integer; The reference: sums; The reference: the integer of a string; A number out of any text; What is written is read. Plain; The reference's Long; the laws' 'form'; The reference: products; Sums, differences and products of two strings; A region that draws its order, by one relation that every order keeps: a goal for each operation, not for each order.
-/
import Derived.Lib.AtoiErrMem
import Derived.Lib.ItoaLen
import Derived.Deep.RegionHeld3
import Derived.Test.YtimcbmgmngkagaaDoorK1
import Derived.Test.YtimcbmgmngkagaaDoorK2
import Derived.Test.YtimcbmgmngkagaaDoorK3
import Derived.Test.YtimcbmgmngkagaaDoorK4
namespace Go.Proofs.YtimcbmgmngkagaaDoor
open Go.RowKit Go.Sort

def inI64 (z : Int) : Bool := decide (-9223372036854775808 ≤ z ∧ z ≤ 9223372036854775807)

theorem fold_le (l : List UInt8) : ∀ acc, acc ≤ l.foldl (fun a c => a * 10 + (c.toNat - 48)) acc := by
  induction l with
  | nil => intro acc; exact Nat.le_refl _
  | cons c r ih => intro acc; rw [List.foldl_cons]; exact Nat.le_trans (by omega) (ih _)

theorem parseM_digits (l : List UInt8) : ∀ acc F, l.foldl (fun a c => a * 10 + (c.toNat - 48)) acc = F → l.all isDg = true → acc ≤ 18446744073709551615 → Lib.parseUintM (2 ^ 64 - 1) acc l = if F ≤ 18446744073709551615 then .ok F else .range := by
  induction l with
  | nil => intro acc F hF _ h; rw [← hF]; exact (if_pos h).symm
  | cons c r ih =>
    intro acc F hF hd h
    rw [List.all_cons, Bool.and_eq_true] at hd
    rw [List.foldl_cons] at hF
    have hc : 48 ≤ c.toNat ∧ c.toNat ≤ 57 := by simpa [isDg] using hd.1
    have hle := fold_le r (acc * 10 + (c.toNat - 48))
    rw [hF] at hle
    unfold Lib.parseUintM
    rw [if_pos hc]
    by_cases h1 : 1844674407370955162 ≤ acc
    · rw [if_pos h1, if_neg (by omega)]
    · rw [if_neg h1]
      by_cases h2 : 2 ^ 64 - 1 < acc * 10 + (c.toNat - 48)
      · rw [if_pos h2, if_neg (by omega)]
      · rw [if_neg h2]
        exact ih _ _ hF hd.2 (by omega)

theorem numB_len {l : List UInt8} (h : numB l = true) : l.length ≤ 2001 := by
  unfold numB at h
  rw [Bool.and_eq_true] at h
  have h2 : (digitsOf l).length ≤ 2000 := by simpa using h.2
  have h3 : l.length ≤ (digitsOf l).length + 1 := by
    cases l with
    | nil => simp
    | cons c r => by_cases hc : c = 45 <;> simp [digitsOf, hc]
  omega

theorem parse_num {l : List UInt8} (h : numB l = true) : Lib.parseIntB 64 l = if inI64 (strV l) then .ok (strV l) else .range := by
  have hp : plainB l = true := by unfold numB at h; rw [Bool.and_eq_true] at h; exact h.1
  unfold plainB at hp
  rw [Bool.and_eq_true, Bool.and_eq_true] at hp
  obtain ⟨⟨h1, h2⟩, _⟩ := hp
  have hu : Lib.parseUintB 64 (digitsOf l) = if decV (digitsOf l) ≤ 18446744073709551615 then .ok (decV (digitsOf l)) else .range := by
    unfold Lib.parseUintB
    rw [if_neg (by intro e; rw [e] at h1; simp at h1)]
    exact parseM_digits _ 0 _ rfl h2 (by omega)
  match l, h1, h2, hu with
  | [], h1, _, _ => simp [digitsOf] at h1
  | c :: r, h1, h2, hu =>
    by_cases hc : c = 45
    · subst hc
      have e : digitsOf (45 :: r) = r := rfl
      rw [e] at hu h1
      rw [Lib.parseIntB_minus, hu]
      have ev : strV (45 :: r) = -(decV r : Int) := rfl
      rw [ev]
      generalize decV r = D
      unfold inI64
      by_cases hD : D ≤ 18446744073709551615
      · rw [if_pos hD]
        simp only [Lib.signedC]
        by_cases h3 : 2 ^ (64 - 1) < D
        · rw [if_pos h3, if_neg (by simp; omega)]
        · rw [if_neg h3, if_pos (by simp; omega)]
      · rw [if_neg hD, if_neg (by simp; omega)]
        rfl
    · have e : digitsOf (c :: r) = c :: r := by simp [digitsOf, hc]
      rw [e] at hu h2
      have hd : 48 ≤ c.toNat ∧ c.toNat ≤ 57 := by
        rw [List.all_cons, Bool.and_eq_true] at h2
        simpa [isDg] using h2.1
      rw [Lib.parseIntB_plain 64 c r (by omega) (by omega), hu]
      have ev : strV (c :: r) = (decV (c :: r) : Int) := by
        unfold strV
        rw [e]
        have : isNeg (c :: r) = false := by simp [isNeg, hc]
        rw [this]; rfl
      rw [ev]
      generalize decV (c :: r) = D
      unfold inI64
      by_cases hD : D ≤ 18446744073709551615
      · rw [if_pos hD]
        simp only [Lib.signlessC]
        by_cases h3 : 2 ^ (64 - 1) ≤ D
        · rw [if_pos h3, if_neg (by simp; omega)]
        · rw [if_neg h3, if_pos (by simp; omega)]
      · rw [if_neg hD, if_neg (by simp; omega)]
        rfl

/-- The variable strconv.ErrRange holds an error, or nothing. -/
def ErrLaid (w : World) : Prop := ∃ ev, w.cell? ⟨2, 0, none⟩ = some ev ∧ (ev = .nilIface ∨ ∃ te pe, ev = .iface te pe)
theorem ErrLaid.below {w w' : World} (h : ErrLaid w) (hb : Below w.heap.size w w') : ErrLaid w' := by
  obtain ⟨ev, h1, h2⟩ := h
  exact ⟨ev, (hb.cell (World.block_lt_of_cell? _ _ h1)).trans h1, h2⟩

/-- What ToInt hands back. -/
def toOk (l : List UInt8) : Bool := numB l && inI64 (strV l)
def toInt (l : List UInt8) : Int := if toOk l then strV l else 0

set_option maxHeartbeats 1000000 in
theorem toInt_any (s : ByteArray) (w : World) (hs : s.size ≤ maxLen) (herr : ErrLaid w) :
    Calls Tryd.prog 31 #[.string s] w fun e w' => e = .returned (.tuple #[.int .i64 (toInt s.data.toList), .bool (toOk s.data.toList)]) ∧ Below w.heap.size w w' := by
  cases hn : numB s.data.toList
  · have h1 : toOk s.data.toList = false := by unfold toOk; rw [hn]; rfl
    have h2 : toInt s.data.toList = 0 := by unfold toInt; rw [if_neg (by rw [h1]; simp)]
    rw [h1, h2]
    have HN := Lib.hid hn
    clear h1 h2 hn
    go_enter Tryd.func31, Tryd.ntmps31
    go_wp2_with (go_at_call 14; refine (is_any s _ hs).mono ?_; rintro e w1 ⟨rfl, hb1⟩; rw [HN.out])
    go_ret2
    exact ⟨rfl, hb1⟩
  · have hl : s.size ≤ 2001 := numB_len hn
    cases hi : inI64 (strV s.data.toList)
    · have h1 : toOk s.data.toList = false := by unfold toOk; rw [hn, hi]; rfl
      have h2 : toInt s.data.toList = 0 := by unfold toInt; rw [if_neg (by rw [h1]; simp)]
      have h3 : Lib.parseIntB 64 s.data.toList = .range := by rw [parse_num hn, hi]; rfl
      rw [h1, h2]
      have HN := Lib.hid hn
      clear h1 h2 hn
      go_enter Tryd.func31, Tryd.ntmps31
      go_wp2_with (first
        | (go_at_call 14; refine (is_any s _ hs).mono ?_; rintro e w1 ⟨rfl, hb1⟩; rw [HN.out]; obtain ⟨ev, g1, g2⟩ := herr.below hb1)
        | (go_at_call 46; refine (Tryd.strconv_ParseInt_10_at64_range s (by omega) h3 ev _ g1 g2).mono ?_; rintro e w2 ⟨N, rfl, _, _, hb2⟩))
      go_ret2
      exact ⟨rfl, hb1.trans (hb2.mono hb1.size)⟩
    · have h1 : toOk s.data.toList = true := by unfold toOk; rw [hn, hi]; rfl
      have h2 : toInt s.data.toList = strV s.data.toList := by unfold toInt; rw [if_pos h1]
      have h3 : Lib.parseIntB 64 s.data.toList = .ok (strV s.data.toList) := by rw [parse_num hn, hi]; rfl
      rw [h1, h2]
      have HN := Lib.hid hn
      clear h1 h2 hn
      go_enter Tryd.func31, Tryd.ntmps31
      go_wp2_with (first
        | (go_at_call 14; refine (is_any s _ hs).mono ?_; rintro e w1 ⟨rfl, hb1⟩; rw [HN.out])
        | (go_at_call 46; refine (Tryd.strconv_ParseInt_10_at64_ok s (by omega) _ h3 _).mono ?_; rintro e w2 ⟨rfl, hb2⟩))
      go_ret2
      refine ⟨rfl, hb1.trans ?_⟩
      rcases hb2 with rfl | ⟨t, rfl⟩
      · exact (Below.refl _ _).mono hb1.size
      · exact (Lib.bytesWorld_below _ _ _).mono hb1.size

end Go.Proofs.YtimcbmgmngkagaaDoor

namespace Go.Proofs.YtimcbmgmngkagaaDoor
open Go.RowKit

/-- What has been split off, and what is left. -/
def SplitI (U u : Nat) (ns : List Nat) : Prop := Dg BR ns ∧ dv BR ns + BR ^ ns.length * u = U

theorem SplitI.step {U u : Nat} {ns : List Nat} (h : SplitI U u ns) : SplitI U (u / 10000) (ns ++ [u % 10000]) := by
  refine ⟨h.1.append (Dg.cons (Nat.mod_lt _ (by decide)) (Dg.nil _)), ?_⟩
  rw [dv_snoc, List.length_append, List.length_singleton, Nat.pow_succ, ← h.2, Nat.add_assoc, Nat.mul_assoc, ← Nat.mul_add]
  congr 2
  have := Nat.div_add_mod u 10000
  show u % 10000 + 10000 * (u / 10000) = u
  omega

theorem SplitI.len {U u : Nat} {ns : List Nat} (h : SplitI U u ns) (hu : 0 < u) (hU : U < 18446744073709551616) : ns.length < 5 := by
  rcases Nat.lt_or_ge ns.length 5 with h5 | h5
  · exact h5
  · have h1 : BR ^ 5 ≤ BR ^ ns.length := Nat.pow_le_pow_right (by decide) h5
    have h2 : BR ^ ns.length * 1 ≤ BR ^ ns.length * u := Nat.mul_le_mul_left _ hu
    have h3 : BR ^ 5 = 100000000000000000000 := by decide
    have := h.2
    omega

end Go.Proofs.YtimcbmgmngkagaaDoor

namespace Go.Proofs.YtimcbmgmngkagaaDoor
open Go.RowKit

end Go.Proofs.YtimcbmgmngkagaaDoor

namespace Go.Proofs.YtimcbmgmngkagaaDoor
open Go.RowKit Go.Lib

/-- The places of one digit to the base 10000. -/
def PwI (V x p v : Nat) : Prop := (p = 1000 ∧ v = V) ∨ (p = 100 ∧ v = V * 10 + x / 1000) ∨ (p = 10 ∧ v = V * 100 + x / 100) ∨ (p = 1 ∧ v = V * 1000 + x / 10) ∨ (p = 0 ∧ v = V * 10000 + x)

theorem PwI.step {V x p v : Nat} (hx : x < 10000) (h : PwI V x p v) (h0 : 0 < p) : PwI V x (p / 10) (v * 10 + x / p % 10) := by
  unfold PwI at *
  rcases h with ⟨rfl, rfl⟩ | ⟨rfl, rfl⟩ | ⟨rfl, rfl⟩ | ⟨rfl, rfl⟩ | ⟨rfl, rfl⟩ <;> omega

theorem PwI.done {V x v : Nat} (h : PwI V x 0 v) : v = x + BR * V := by
  unfold PwI at h
  show v = x + 10000 * V
  omega

theorem GrB.form {w : World} {base : Nat} {v : Value} {l : List UInt8} (h : GrB w base v l) : ∃ p c, v = .slice p l.length c := by
  obtain ⟨p, c, e, _⟩ := own_form h
  exact ⟨p, c, e⟩

end Go.Proofs.YtimcbmgmngkagaaDoor

namespace Go.Proofs.YtimcbmgmngkagaaDoor

/-- A sum, place by place. -/
def AddI (xs ys zs : List Nat) (i c : Nat) : Prop := Dg BR zs ∧ zs.length = i ∧ dv BR zs + BR ^ i * c = dv BR (xs.take i) + dv BR (ys.take i) ∧ c ≤ 1

theorem AddI.start (xs ys : List Nat) : AddI xs ys [] 0 0 := ⟨Dg.nil _, rfl, by simp [dv], Nat.zero_le _⟩

theorem AddI.step {xs ys zs : List Nat} {i c s : Nat} (hx : Dg BR xs) (hy : Dg BR ys) (h : AddI xs ys zs i c) (hs : c + xs[i]?.getD 0 + ys[i]?.getD 0 = s) : AddI xs ys (zs ++ [s % 10000]) (i + 1) (s / 10000) := by
  obtain ⟨h1, h2, h3, h4⟩ := h
  have ha : xs[i]?.getD 0 < 10000 := hx.get (by decide) i
  have hb : ys[i]?.getD 0 < 10000 := hy.get (by decide) i
  refine ⟨h1.append (Dg.cons (Nat.mod_lt _ (by decide)) (Dg.nil _)), by simp [h2], ?_, by omega⟩
  rw [dv_snoc, h2, dv_take_succ, dv_take_succ, Nat.pow_succ]
  have e1 : BR ^ i * (s % 10000) + BR ^ i * BR * (s / 10000) = BR ^ i * s := by
    rw [Nat.mul_assoc, ← Nat.mul_add]
    congr 1
    show s % 10000 + 10000 * (s / 10000) = s
    omega
  have e2 : BR ^ i * s = BR ^ i * c + BR ^ i * xs[i]?.getD 0 + BR ^ i * ys[i]?.getD 0 := by rw [← hs, Nat.mul_add, Nat.mul_add]
  omega

theorem AddI.zero {xs ys zs : List Nat} {i c s : Nat} (h : AddI xs ys zs i c) (hi : xs.length ≤ i) (hj : ys.length ≤ i) (hs : c + xs[i]?.getD 0 + ys[i]?.getD 0 = s) : s / 10000 = 0 := by
  have h4 := h.2.2.2
  rw [List.getElem?_eq_none hi, List.getElem?_eq_none hj] at hs
  simp at hs
  omega

theorem AddI.done {xs ys zs : List Nat} {i : Nat} (h : AddI xs ys zs i 0) (hi : xs.length ≤ i) (hj : ys.length ≤ i) : dv BR zs = dv BR xs + dv BR ys := by
  have h3 := h.2.2.1
  rw [List.take_of_length_le hi, List.take_of_length_le hj] at h3
  omega

/-- A difference, place by place. -/
def SubI (xs ys zs : List Nat) (i c : Nat) : Prop := Dg BR zs ∧ zs.length = i ∧ dv BR zs + dv BR (ys.take i) = dv BR (xs.take i) + BR ^ i * c ∧ c ≤ 1

theorem SubI.start (xs ys : List Nat) : SubI xs ys [] 0 0 := ⟨Dg.nil _, rfl, by simp [dv], Nat.zero_le _⟩

theorem SubI.step {xs ys zs : List Nat} {i c d e : Nat} (hy : Dg BR ys) (hx : Dg BR xs) (h : SubI xs ys zs i c) (hd : d + ys[i]?.getD 0 + c = xs[i]?.getD 0 + 10000 * e) (hd1 : d < 10000) (he : e ≤ 1) : SubI xs ys (zs ++ [d]) (i + 1) e := by
  obtain ⟨h1, h2, h3, h4⟩ := h
  refine ⟨h1.append (Dg.cons hd1 (Dg.nil _)), by simp [h2], ?_, he⟩
  rw [dv_snoc, h2, dv_take_succ, dv_take_succ, Nat.pow_succ]
  have e1 : BR ^ i * d + BR ^ i * ys[i]?.getD 0 + BR ^ i * c = BR ^ i * xs[i]?.getD 0 + BR ^ i * BR * e := by
    rw [← Nat.mul_add, ← Nat.mul_add, Nat.mul_assoc, ← Nat.mul_add]
    congr 1
  omega

theorem SubI.done {xs ys zs : List Nat} {i c : Nat} (h : SubI xs ys zs i c) (hi : xs.length ≤ i) (hj : ys.length ≤ i) (hle : dv BR ys ≤ dv BR xs) : dv BR zs = dv BR xs - dv BR ys := by
  obtain ⟨h1, h2, h3, h4⟩ := h
  rw [List.take_of_length_le hi, List.take_of_length_le hj] at h3
  have h5 := dv_lt h1
  rw [h2] at h5
  cases c with
  | zero => omega
  | succ c => have : c = 0 := by omega
              subst this; omega

end Go.Proofs.YtimcbmgmngkagaaDoor

namespace Go.Proofs.YtimcbmgmngkagaaDoor
open Go.RowKit

end Go.Proofs.YtimcbmgmngkagaaDoor

namespace Go.Proofs.YtimcbmgmngkagaaDoor
open Go.RowKit

theorem Rd.drewN {k : IntKind} {w : World} {p : Option Addr} {n : Nat} {xs : List Nat} (h : Rd k w p n xs) (a : Nat) : Rd k (w.drewN a) p n xs := h

end Go.Proofs.YtimcbmgmngkagaaDoor

namespace Go.Proofs.YtimcbmgmngkagaaDoor
open Go.RowKit

theorem decV_fold (b : List UInt8) : ∀ acc : Nat, b.foldl (fun a c => a * 10 + (c.toNat - 48)) acc = acc * 10 ^ b.length + decV b := by
  induction b with
  | nil => intro acc; simp [decV]
  | cons c b ih =>
    intro acc
    have h1 := ih (acc * 10 + (c.toNat - 48))
    have h2 := ih (0 * 10 + (c.toNat - 48))
    have h3 : decV (c :: b) = b.foldl (fun a c => a * 10 + (c.toNat - 48)) (0 * 10 + (c.toNat - 48)) := rfl
    rw [h3, h2, List.foldl_cons, h1, List.length_cons, Nat.pow_succ, Nat.add_mul, Nat.zero_mul, Nat.zero_add, Nat.mul_assoc, Nat.mul_comm 10, Nat.add_assoc]

theorem decV_append (a b : List UInt8) : decV (a ++ b) = decV a * 10 ^ b.length + decV b := by
  show (a ++ b).foldl _ 0 = _
  rw [List.foldl_append]
  exact decV_fold b _

theorem decV_bnd {l : List UInt8} (h : l.all isDg = true) : decV l < 10 ^ l.length := by
  induction l with
  | nil => simp [decV]
  | cons c l ih =>
    rw [List.all_cons, Bool.and_eq_true] at h
    have h1 := ih h.2
    obtain ⟨h3, h4⟩ := isDg_of h.1
    have h5 := decV_append [c] l
    have h6 : decV [c] = c.toNat - 48 := by simp [decV]
    rw [List.singleton_append, h6] at h5
    have h7 : (c.toNat - 48) * 10 ^ l.length ≤ 9 * 10 ^ l.length := Nat.mul_le_mul_right _ (by omega)
    rw [h5, List.length_cons, Nat.pow_succ]
    omega

end Go.Proofs.YtimcbmgmngkagaaDoor

namespace Go.Proofs.YtimcbmgmngkagaaDoor
open Go.RowKit

end Go.Proofs.YtimcbmgmngkagaaDoor

namespace Go.Proofs.YtimcbmgmngkagaaDoor
open Go.RowKit

/-- What has been written: digits, no 0 in front. -/
def ClnI (most i : Nat) (o : List UInt8) : Prop := o.all isDg = true ∧ o.head? ≠ some 48 ∧ o.length ≤ most ∧ o.length ≤ i

theorem ClnI.skip {most i : Nat} {o : List UInt8} (h : ClnI most i o) : ClnI most (i + 1) o := ⟨h.1, h.2.1, h.2.2.1, by have := h.2.2.2; omega⟩

theorem ClnI.push {most i d : Nat} {o : List UInt8} (h : ClnI most i o) (hd : d < 10) (hlt : o.length < most) (hp : 0 < d ∨ 0 < o.length) : ClnI most (i + 1) (o ++ [UInt8.ofNat (48 + d)]) := by
  obtain ⟨h1, h2, h3, h4⟩ := h
  have ht : (UInt8.ofNat (48 + d)).toNat = 48 + d := by simp; omega
  refine ⟨?_, ?_, by simp; omega, by simp; omega⟩
  · rw [List.all_append, h1]; simp [isDg, ht]; omega
  · cases o with
    | nil =>
      have hp' : 0 < d := by simpa using hp
      rw [List.nil_append]
      intro e
      have h5 := congrArg UInt8.toNat (Option.some.inj (show some (UInt8.ofNat (48 + d)) = some 48 from e))
      rw [ht] at h5
      have h6 : (48 : UInt8).toNat = 48 := rfl
      omega
    | cons c t => simpa using h2

/-- A number of at most so many digits. -/
def CleanIs (most : Nat) (l : List UInt8) : Prop := numB l = true ∧ (digitsOf l).length ≤ most ∧ l.length ≤ most + 1

theorem clean_zero {most : Nat} (h : 1 ≤ most) : CleanIs most [48] := ⟨by decide, by simp [digitsOf]; omega, by simp⟩

theorem clean_of {most i : Nat} {o : List UInt8} (h : ClnI most i o) (hm : most ≤ 2000) (hne : o ≠ []) : CleanIs most o ∧ CleanIs most (45 :: o) := by
  obtain ⟨h1, h2, h3, _⟩ := h
  cases o with
  | nil => exact absurd rfl hne
  | cons c t =>
    have hc : c ≠ 45 := by
      rintro rfl
      rw [List.all_cons] at h1
      simp [isDg] at h1
    have hd : digitsOf (c :: t) = c :: t := by simp [digitsOf, hc]
    have hd2 : digitsOf (45 :: c :: t) = c :: t := by simp [digitsOf]
    have h48 : ((c :: t).head? != some 48) = true := by simpa using h2
    refine ⟨⟨?_, by rw [hd]; exact h3, by omega⟩, ⟨?_, by rw [hd2]; exact h3, by simp at h3 ⊢; omega⟩⟩
    · unfold numB plainB; rw [hd, h1, h48]; simp at h3 ⊢; omega
    · unfold numB plainB; rw [hd2, h1, h48]; simp at h3 ⊢; omega

set_option maxRecDepth 100000 in
set_option maxHeartbeats 2000000 in
theorem clean_any (l : List UInt8) (most : Nat) (w : World) (hl : l.length ≤ 9223372036854775807) (hm1 : 1 ≤ most) (hm : most ≤ 2000) :
    Calls Tryd.prog 5 #[.string ⟨l.toArray⟩, .int .i64 (most : Int)] w fun e w' => (∃ l', CleanIs most l' ∧ e = .returned (.string ⟨l'.toArray⟩)) ∧ Below w.heap.size w w' := by
  have hsz : (⟨l.toArray⟩ : ByteArray).size = l.length := by show l.toArray.size = _; simp
  obtain ⟨L, hL⟩ : ∃ L, l.length = L := ⟨_, rfl⟩
  rw [hL] at hl hsz
  have HL := Lib.hid hL
  clear hL
  go_enter Tryd.func5, Tryd.ntmps5
  go_wp2_with fail
  go_loopw [5, 6] (fun v5 v6 wr => ∃ (i : Nat) (o : List UInt8), i ≤ L ∧ v6 = .int .i64 (i : Int) ∧ Hid (ClnI most i o) ∧ GrB wr w.heap.size v5 o ∧ w.heap.size ≤ wr.heap.size ∧ Below w.heap.size w wr) (fun _ v6 _ => L - (Go.RowKit.intOf v6).toNat)
  case atStart => exact ⟨0, [], Nat.zero_le _, rfl, ⟨rfl, by simp, Nat.zero_le _, Nat.le_refl _⟩, GrB.nil _ _, Nat.le_refl _, Below.refl _ _⟩
  case round =>
    obtain ⟨i, o, hi, rfl, HC, hgr, hsz2, hb⟩ := hrel
    obtain ⟨pp, cp, rfl⟩ := hgr.form
    have hol := HC.out.2.2.1
    by_cases hgo : i < L ∧ o.length < most
    · obtain ⟨hlt, hom⟩ := hgo
      have his : i < (⟨l.toArray⟩ : ByteArray).size := by rw [hsz]; exact hlt
      obtain ⟨bb, hbb⟩ : ∃ bb : Nat, ((⟨l.toArray⟩ : ByteArray)[i]'his).toNat = bb := ⟨_, rfl⟩
      have hb256 : bb < 256 := by rw [← hbb]; exact UInt8.toNat_lt _
      have hmod : (bb : Int) % 10 = ((bb % 10 : Nat) : Int) := by omega
      have hd10 : bb % 10 < 10 := Nat.mod_lt _ (by decide)
      generalize bb % 10 = d at hmod hd10
      have hd48 : (48 : Int) + (d : Int) = ((48 + d : Nat) : Int) := by omega
      have hil : (i : Int) < (L : Int) := by omega
      have hol' : (o.length : Int) < (most : Int) := by omega
      have HPU := fun h => HC.out.push hd10 hom h
      have HPH := Lib.hid HPU
      have HSK := Lib.hid HC.out.skip
      clear HPU
      have hd256 : 48 + d < 256 := by omega
      by_cases hz : d = 0 ∧ o.length = 0
      · obtain ⟨rfl, ho0⟩ := hz
        obtain rfl : o = [] := List.length_eq_zero_iff.1 ho0
        clear hd48 hd256
        have hl0 : ([] : List UInt8).length = 0 := rfl
        go_wp2_with fail
        go_roundw
        case rel => exact ⟨i + 1, [], by omega, by go_num, HSK.out, hgr, hsz2, hb⟩
        case measure => simp [Go.RowKit.intOf]; omega
      · have hpp : 0 < d ∨ 0 < o.length := by omega
        have HPP := Lib.hid (HPH.out hpp)
        by_cases hd0 : d = 0
        · subst hd0
          have hl0 : 0 < o.length := by omega
          have HPP' : Hid (ClnI most (i + 1) (o ++ [UInt8.ofNat 48])) := HPP.out
          clear hz hpp hd48 hd256
          go_wp2_with (at_builtin; refine pushB_law rfl _ _ rfl rfl hgr 48 (by decide) rfl (by omega) hsz2 ?_; intro v' w' hgr' hb')
          go_roundw
          case rel => exact ⟨i + 1, o ++ [UInt8.ofNat 48], by omega, by go_num, HPP'.out, hgr', Nat.le_trans hsz2 hb'.size, hb.trans hb'⟩
          case measure => simp [Go.RowKit.intOf]; omega
        · have hc48 : (48 : Int) < ((48 + d : Nat) : Int) := by omega
          generalize h8 : 48 + d = d8 at hd48 hd256 HPP hc48
          have hd0' : 0 < d := by omega
          clear hz hpp hd0 h8
          go_wp2_with (at_builtin; refine pushB_law rfl _ _ rfl rfl hgr d8 hd256 rfl (by omega) hsz2 ?_; intro v' w' hgr' hb')
          go_roundw
          case rel => exact ⟨i + 1, o ++ [UInt8.ofNat d8], by omega, by go_num, HPP.out, hgr', Nat.le_trans hsz2 hb'.size, hb.trans hb'⟩
          case measure => simp [Go.RowKit.intOf]; omega
    · have hfin : ∀ e W, e = Ending.returned (.string ⟨(if o.length = 0 then [48] else o).toArray⟩) ∨ (o.length ≠ 0 ∧ e = Ending.returned (.string ⟨(45 :: o).toArray⟩)) → Below w.heap.size w W → ((∃ l', CleanIs most l' ∧ e = .returned (.string ⟨l'.toArray⟩)) ∧ Below w.heap.size w W) := by
        intro e W he hW
        refine ⟨?_, hW⟩
        by_cases ho : o = []
        · subst ho
          rcases he with rfl | ⟨h, _⟩
          · exact ⟨[48], clean_zero hm1, rfl⟩
          · exact absurd rfl h
        · have ho' : o.length ≠ 0 := fun h => ho (List.length_eq_zero_iff.1 h)
          obtain ⟨c1, c2⟩ := clean_of HC.out hm ho
          rcases he with rfl | ⟨_, rfl⟩
          · rw [if_neg ho']; exact ⟨o, c1, rfl⟩
          · exact ⟨45 :: o, c2, rfl⟩
      have HFIN := Lib.hid hfin
      clear hfin
      by_cases ho0 : o.length = 0
      · by_cases hiL : i < L
        · have hom : ¬ (o.length < most) := fun h => hgo ⟨hiL, h⟩
          omega
        · have hz0 : ((o.length : Int) == 0) = true := by simp; exact List.length_eq_zero_iff.1 ho0
          have hiL' : ¬ ((i : Int) < (L : Int)) := by omega
          have HO := Lib.hid ho0
          clear hgo ho0 hiL
          go_wp2_with fail
          go_ret
          exact HFIN.out _ _ (.inl (by rw [if_pos HO.out]; rfl)) hb
      · have hz0 : ((o.length : Int) == 0) = false := by simp; intro e; exact ho0 (by rw [e]; rfl)
        have hL0 : 0 < L := by have := HC.out.2.2.2; omega
        have hls : 0 < (⟨l.toArray⟩ : ByteArray).size := by rw [hsz]; exact hL0
        obtain ⟨b0, hb0⟩ : ∃ b0 : Nat, ((⟨l.toArray⟩ : ByteArray)[0]'hls).toNat = b0 := ⟨_, rfl⟩
        have hb256 : b0 < 256 := by rw [← hb0]; exact UInt8.toNat_lt _
        have hcv := text_convert hgr (fun e => ho0 (by rw [e]; rfl))
        have HO := Lib.hid ho0
        have hmod3 : (b0 : Int) % 3 = ((b0 % 3 : Nat) : Int) := by omega
        generalize b0 % 3 = r3 at hmod3
        have hov : ¬ (9223372036854775807 < 1 + o.length) := by omega
        by_cases hi : i < L
        · have hno : ¬ (o.length < most) := fun h => hgo ⟨hi, h⟩
          have hom : ¬ ((o.length : Int) < (most : Int)) := by omega
          have hiL' : (i : Int) < (L : Int) := by omega
          clear hgo ho0 hno
          by_cases h3 : r3 = 0
          · subst h3
            go_wp2_with fail
            go_ret
            exact HFIN.out _ _ (.inr ⟨HO.out, ret_val (congrArg Value.string (by apply ByteArray.ext; simp))⟩) hb
          · have h3z : ((r3 : Int) == 0) = false := by simp; omega
            go_wp2_with fail
            go_ret
            exact HFIN.out _ _ (.inl (by rw [if_neg HO.out]; rfl)) hb
        · have hiL' : ¬ ((i : Int) < (L : Int)) := by omega
          clear hgo ho0
          by_cases h3 : r3 = 0
          · subst h3
            go_wp2_with fail
            go_ret
            exact HFIN.out _ _ (.inr ⟨HO.out, ret_val (congrArg Value.string (by apply ByteArray.ext; simp))⟩) hb
          · have h3z : ((r3 : Int) == 0) = false := by simp; omega
            go_wp2_with fail
            go_ret
            exact HFIN.out _ _ (.inl (by rw [if_neg HO.out]; rfl)) hb

end Go.Proofs.YtimcbmgmngkagaaDoor

namespace Go.Proofs.YtimcbmgmngkagaaDoor
open Go.Lib

theorem dec_says (u : Nat) : (decDigits u).all isDg = true ∧ decV (decDigits u) = u ∧ decDigits u ≠ [] ∧ (0 < u → (decDigits u).head? ≠ some 48) := by
  induction u using Nat.strongRecOn with
  | _ u ih =>
    have key : ∀ d, d < 10 → (UInt8.ofNat (48 + d)).toNat = 48 + d := fun d hd => by simp; omega
    by_cases h : u < 10
    · have e : decDigits u = [UInt8.ofNat (48 + u)] := by rw [decDigits.eq_1, dif_pos h]
      have k := key u h
      rw [e]
      refine ⟨?_, ?_, by simp, fun h0 => ?_⟩
      · rw [List.all_cons, List.all_nil, Bool.and_true]; unfold isDg; rw [k]; simp; omega
      · unfold decV; rw [List.foldl_cons, List.foldl_nil, k]; omega
      · intro e2
        have h5 := congrArg UInt8.toNat (Option.some.inj (show some (UInt8.ofNat (48 + u)) = some 48 from e2))
        rw [k] at h5
        have h6 : (48 : UInt8).toNat = 48 := rfl
        omega
    · have e : decDigits u = decDigits (u / 10) ++ [UInt8.ofNat (48 + u % 10)] := by rw [decDigits.eq_1, dif_neg h]
      obtain ⟨h1, h2, h3, h4⟩ := ih (u / 10) (by omega)
      have k := key (u % 10) (by omega)
      rw [e]
      refine ⟨?_, ?_, by simp, fun h0 => ?_⟩
      · rw [List.all_append, h1, List.all_cons, List.all_nil, Bool.and_true, Bool.true_and]; unfold isDg; rw [k]; simp; omega
      · rw [decV_snoc, h2, k]; omega
      · cases hd : decDigits (u / 10) with
        | nil => exact absurd hd h3
        | cons c t => have := h4 (by omega); rw [hd] at this; simpa using this

theorem itoa_says (z : Int) : plainB (itoa z) = true ∧ strV (itoa z) = z ∧ (digitsOf (itoa z)).length = nDigits z.natAbs := by
  by_cases h : 0 ≤ z
  · obtain ⟨u, rfl⟩ : ∃ u : Nat, z = (u : Int) := ⟨z.toNat, by omega⟩
    obtain ⟨h1, h2, h3, h4⟩ := dec_says u
    rw [itoa_nonneg]
    have h0 : u = 0 → decDigits u = [48] := fun e => by rw [e]; decide +kernel
    have hlen := decDigits_length u
    cases hd : decDigits u with
    | nil => exact absurd hd h3
    | cons c t =>
      rw [hd] at h1 h2 h4 h0 hlen
      have hc : c ≠ 45 := by
        rintro rfl
        rw [List.all_cons] at h1
        simp [isDg] at h1
      have hds : digitsOf (c :: t) = c :: t := by simp [digitsOf, hc]
      have hn : isNeg (c :: t) = false := by simp [isNeg, hc]
      refine ⟨?_, ?_, ?_⟩
      · unfold plainB; rw [hds, h1]
        by_cases hu : 0 < u
        · have := h4 hu; simp at this; simp [this]
        · have := h0 (by omega); simp [this]
      · unfold strV; rw [hds, hn, h2]; rfl
      · rw [hds, hlen]; simp
  · obtain ⟨u, rfl⟩ : ∃ u : Nat, z = -(u : Int) := ⟨(-z).toNat, by omega⟩
    have hu : 1 ≤ u := by omega
    obtain ⟨h1, h2, h3, h4⟩ := dec_says u
    rw [itoa_neg u hu]
    have hds : digitsOf (45 :: decDigits u) = decDigits u := by simp [digitsOf]
    have hn : isNeg (45 :: decDigits u) = true := by simp [isNeg]
    refine ⟨?_, ?_, ?_⟩
    · unfold plainB; rw [hds, h1]
      have := h4 (by omega)
      have h5 : (decDigits u).isEmpty = false := by cases hd : decDigits u with
        | nil => exact absurd hd h3
        | cons c t => rfl
      simp [h5, this]
    · unfold strV; rw [hds, hn, h2]; rfl
    · rw [hds, decDigits_length, Int.natAbs_neg, Int.natAbs_natCast]

end Go.Proofs.YtimcbmgmngkagaaDoor

namespace Go.Proofs.YtimcbmgmngkagaaDoor
open Go.RowKit

theorem long_itoa (z : Int) : longB z = decide (2000 < ((digitsOf (Lib.itoa z)).length)) := by
  rw [(itoa_says z).2.2]
  unfold longB nd0
  split
  · rename_i h; rw [h]; decide +kernel
  · rfl

/-- Lists of bytes. -/
def RdL (w : World) (a : Option Addr) (l : List (List UInt8)) : Prop := ∀ i s, l[i]? = some s → ∃ b off, a = some ⟨b, off, none⟩ ∧ b < w.heap.size ∧ w.cell? ⟨b, off + i, none⟩ = some (.string ⟨s.toArray⟩)
def allN (l : List (List UInt8)) : Bool := l.all numB

theorem RdL.below {w w' : World} {a : Option Addr} {l : List (List UInt8)} (h : RdL w a l) (hb : Below w.heap.size w w') : RdL w' a l := by
  intro i s hi
  obtain ⟨b, off, ha, hlt, hc⟩ := h i s hi
  exact ⟨b, off, ha, Nat.lt_of_lt_of_le hlt hb.size, (hb.cell (p := ⟨b, _, none⟩) hlt).trans hc⟩

end Go.Proofs.YtimcbmgmngkagaaDoor

namespace Go.Proofs.YtimcbmgmngkagaaDoor
open Go.RowKit

theorem RIs.set2 {w : World} {neg : Bool} {p : Option Addr} {n c : Nat} {xs : List Nat} {z : Int} (h : RIs w neg p n c xs z) {B : Nat} {a : Bool} {q : Option Addr} {k d : Nat} {t : TypeId} (hb : Boxed2 w B (.bool a) (.slice q k d) t) (a' : Bool) (v : Value) :
    RIs ((w.setCell ⟨B, 0, none⟩ (.bool a')).setCell ⟨B, 1, none⟩ v) neg p n c xs z :=
  { h with rd := (h.rd.boxI hb _).boxI (hb.set0 (.bool a')) _ }

end Go.Proofs.YtimcbmgmngkagaaDoor

namespace Go.Proofs.YtimcbmgmngkagaaDoor
open Go.RowKit

/-- i digits of x are done. -/
def RMulOut (xs ys zs : List Nat) (i : Nat) : Prop :=
  zs.length = xs.length + ys.length ∧ Dg BR zs ∧ dv BR zs = dv BR (xs.take i) * dv BR ys ∧ ∀ t, i + ys.length ≤ t → zs[t]?.getD 0 = 0

/-- Digit i of x, j places of y. -/
def RMulIn (xs ys z0 zs : List Nat) (i j c : Nat) : Prop :=
  zs.length = xs.length + ys.length ∧ Dg BR zs ∧ c < BR ∧ dv BR zs + BR ^ (i + j) * c = dv BR z0 + BR ^ i * (xs[i]?.getD 0 * dv BR (ys.take j)) ∧ (∀ t, i + 1 + ys.length ≤ t → zs[t]?.getD 0 = 0) ∧ (j ≤ ys.length → zs[i + ys.length]?.getD 0 = 0) ∧ (ys.length < j → c = 0)

theorem RMulIn.start {xs ys zs : List Nat} {i : Nat} (h : RMulOut xs ys zs i) : RMulIn xs ys zs zs i 0 0 :=
  ⟨h.1, h.2.1, by decide, by simp [dv], fun t ht => h.2.2.2 t (by omega), fun _ => h.2.2.2 _ (Nat.le_refl _), fun h => by omega⟩

theorem RMulIn.step {xs ys z0 zs : List Nat} {i j c s : Nat} (h : RMulIn xs ys z0 zs i j c) (hi : i < xs.length) (hj : j ≤ ys.length) (gx : Dg BR xs) (gy : Dg BR ys) (hs : c + zs[i + j]?.getD 0 + xs[i]?.getD 0 * ys[j]?.getD 0 = s) :
    RMulIn xs ys z0 (zs.set (i + j) (s % 10000)) i (j + 1) (s / 10000) := by
  obtain ⟨h1, h2, h3, h4, h5, h6, h7⟩ := h
  have hs' : c + (xs[i]?.getD 0 * ys[j]?.getD 0 + zs[i + j]?.getD 0) = s := by omega
  have hz := h6 hj
  refine ⟨by simp [h1], h2.set _ (Nat.mod_lt _ (by decide)), ?_, ?_, ?_, ?_, ?_⟩
  · rw [← hs']
    show _ / BR < BR
    rw [Nat.div_lt_iff_lt_mul (by decide)]
    exact mul_fits (by decide) h3 (gx.get (by decide) i) (gy.get (by decide) j) (h2.get (by decide) (i + j))
  · have g := mul_place (b := BR) (zs := zs) (at_ := i + j) (x := xs[i]?.getD 0) (w := ys[j]?.getD 0) (c := c) (by omega) rfl
    rw [hs'] at g
    have g' : dv BR (zs.set (i + j) (s % 10000)) + BR ^ (i + (j + 1)) * (s / 10000) = _ := g
    rw [g', h4, dv_take_succ, Nat.mul_add, Nat.mul_add, Nat.pow_add]
    grind
  · intro t ht
    rw [set_get_other _ _ _ _ (by omega)]; exact h5 t ht
  · intro hj'
    rw [set_get_other _ _ _ _ (by omega)]; exact hz
  · intro hj'
    have e : j = ys.length := by omega
    rw [e, hz, List.getElem?_eq_none (Nat.le_refl _)] at hs
    simp at hs
    have : BR = 10000 := rfl
    omega

theorem RMulIn.finish {xs ys z0 zs : List Nat} {i j : Nat} (h : RMulIn xs ys z0 zs i j 0) (h0 : RMulOut xs ys z0 i) (hj : ys.length ≤ j) : RMulOut xs ys zs (i + 1) := by
  obtain ⟨h1, h2, h3, h4, h5, h6, h7⟩ := h
  refine ⟨h1, h2, ?_, h5⟩
  rw [Nat.mul_zero, Nat.add_zero, List.take_of_length_le hj, h0.2.2.1] at h4
  rw [h4, dv_take_succ, Nat.add_mul, Nat.mul_assoc]

end Go.Proofs.YtimcbmgmngkagaaDoor

namespace Go.Proofs.YtimcbmgmngkagaaDoor
open Go.RowKit

def apiS (ok : Bool) (z : Int) : List UInt8 := if ok then outS z else []
def apiE (ok : Bool) (z : Int) : Int := if ok then outE z else 6

/-- What a call hands back: a string and an error. -/
def ApiIs (w : World) (ok : Bool) (z : Int) (e : Ending) (w' : World) : Prop := e = .returned (.tuple #[.string ⟨(apiS ok z).toArray⟩, .int .i64 (apiE ok z)]) ∧ Below w.heap.size w w'

theorem pair_boxes {W : World} (u0 u1 u2 u3 : Value) (t : TypeId) : Boxed2 ((W.alloc (.cells #[u0, u1] t)).alloc (.cells #[u2, u3] t)) W.heap.size u0 u1 t ∧ Boxed2 ((W.alloc (.cells #[u0, u1] t)).alloc (.cells #[u2, u3] t)) (W.heap.size + 1) u2 u3 t :=
  ⟨(Boxed2.new W _ _ _).alloc _, by have := Boxed2.new (W.alloc (.cells #[u0, u1] t)) u2 u3 t; simpa using this⟩

theorem Nums.two {W : World} {a b : Bool} {p q : Option Addr} {n c m d : Nat} {xs ys : List Nat} {x y : Int} {L : Nat} (hx : NumIs W a p n c xs x L) (hy : NumIs W b q m d ys y L) (t : TypeId) :
    Nums (W.alloc (.cells #[.bool a, .slice p n c, .bool b, .slice q m d] t)) (some ⟨W.heap.size, 0, none⟩) [x, y] L := by
  have hb : Below W.heap.size W (W.alloc (.cells #[.bool a, .slice p n c, .bool b, .slice q m d] t)) := (Below.refl _ _).alloc (Nat.le_refl _) _
  intro i z hz
  match i, hz with
  | 0, hz => cases hz; exact ⟨W.heap.size, 0, a, p, n, c, xs, rfl, by simp, by simp, by simp, hx.below hb⟩
  | 1, hz => cases hz; exact ⟨W.heap.size, 0, b, q, m, d, ys, rfl, by simp, by simp, by simp, hy.below hb⟩
  | i + 2, hz => simp at hz

theorem sumZ_two (x y : Int) : sumZ [x, y] = x + y := by simp [sumZ]

theorem sum_two {W : World} {a b : Bool} {p q : Option Addr} {n c m d : Nat} {xs ys : List Nat} {x y : Int} {L : Nat} (hx : NumIs W a p n c xs x L) (hy : NumIs W b q m d ys y L) (hL : L ≤ 100000000) (t : TypeId) (k B : Nat) (hB : W.heap.size = B) :
    Calls Tryd.prog 19 #[.slice (some ⟨B, 0, none⟩) 2 k] (W.alloc (.cells #[.bool a, .slice p n c, .bool b, .slice q m d] t)) (NumV (W.alloc (.cells #[.bool a, .slice p n c, .bool b, .slice q m d] t)) (x + y) (L + 2)) := by
  subst hB
  have h := sum_any (some ⟨W.heap.size, 0, none⟩) 2 k [x, y] L _ rfl (by omega) hL (Nums.two hx hy t)
  rw [sumZ_two] at h
  exact h

set_option maxHeartbeats 1000000 in
theorem mul_ok (s t : ByteArray) (w : World) (hs : s.size ≤ maxLen) (ht : t.size ≤ maxLen) (h1 : numB s.data.toList = true) (h2 : numB t.data.toList = true) (htab : Tab w) :
    Calls Tryd.prog 7 #[.string s, .string t] w (ApiIs w true (strV s.data.toList * strV t.data.toList)) := by
  go_enter Tryd.func7, Tryd.ntmps7
  go_wp2_with (first
    | (go_at_call 18; refine (pair_ok s t _ hs ht h1 h2).mono ?_; rintro e w1 ⟨a, p, n, c, xs, b, q, m, d, ys, rfl, hx, hy, hb1⟩; have hbA : Below w1.heap.size w1 ((w1.alloc (.cells #[.bool a, .slice p n c] 47)).alloc (.cells #[.bool b, .slice q m d] 47)) := (((Below.refl _ _).alloc (Nat.le_refl _) _).alloc (by simp) _); have hbW := hb1.trans (hbA.mono hb1.size); have hxA := hx.below hbA; have hyA := hy.below hbA)
    | (go_at_call 21; refine (product_num hxA hyA (by omega) (by omega)).mono ?_; rintro e w2 ⟨neg2, p2, n2, d2, xs2, rfl, hx2, hb2⟩; have hbX := hbW.trans (hb2.mono hbW.size))
    | (go_at_call 20; refine (written_any _ _ _ _ _ _ _ _ hx2 (by omega) (htab.below hbX)).mono ?_; rintro e w3 ⟨rfl, hb3⟩))
  go_ret2
  exact ⟨rfl, hbX.trans (hb3.mono hbX.size)⟩

set_option maxHeartbeats 1000000 in
theorem mul_bad (s t : ByteArray) (w : World) (hs : s.size ≤ maxLen) (ht : t.size ≤ maxLen) (h : (numB s.data.toList && numB t.data.toList) = false) (z : Int) :
    Calls Tryd.prog 7 #[.string s, .string t] w (ApiIs w false z) := by
  go_enter Tryd.func7, Tryd.ntmps7
  go_wp2_with (go_at_call 18; refine (pair_bad s t _ hs ht h).mono ?_; rintro e w1 ⟨rfl, hb1⟩)
  go_ret2
  exact ⟨rfl, (hb1.alloc hb1.size _).alloc (by have := hb1.size; simp; omega) _⟩

theorem mul_any (s t : ByteArray) (w : World) (hs : s.size ≤ maxLen) (ht : t.size ≤ maxLen) (htab : Tab w) :
    Calls Tryd.prog 7 #[.string s, .string t] w (ApiIs w (numB s.data.toList && numB t.data.toList) (strV s.data.toList * strV t.data.toList)) := by
  cases h : (numB s.data.toList && numB t.data.toList)
  · exact mul_bad s t w hs ht h _
  · simp only [Bool.and_eq_true] at h
    exact mul_ok s t w hs ht h.1 h.2 htab

set_option maxHeartbeats 1000000 in
theorem add_ok (s t : ByteArray) (w : World) (hs : s.size ≤ maxLen) (ht : t.size ≤ maxLen) (h1 : numB s.data.toList = true) (h2 : numB t.data.toList = true) (htab : Tab w) :
    Calls Tryd.prog 6 #[.string s, .string t] w (ApiIs w true (strV s.data.toList + strV t.data.toList)) := by
  go_enter Tryd.func6, Tryd.ntmps6
  go_wp2_with (first
    | (go_at_call 18; refine (pair_ok s t _ hs ht h1 h2).mono ?_; rintro e w1 ⟨a, p, n, c, xs, b, q, m, d, ys, rfl, hx, hy, hb1⟩; have hbA : Below w1.heap.size w1 ((w1.alloc (.cells #[.bool a, .slice p n c] 47)).alloc (.cells #[.bool b, .slice q m d] 47)) := (((Below.refl _ _).alloc (Nat.le_refl _) _).alloc (by simp) _); have hbW := hb1.trans (hbA.mono hb1.size); have hxA := hx.below hbA; have hyA := hy.below hbA)
    | (go_at_call 19; refine (sum_two hxA hyA (by omega) _ _ _ (by simp)).mono ?_; rintro e w2 ⟨neg2, p2, n2, d2, xs2, rfl, hx2, hb2⟩; have hbX := (hbW.alloc hbW.size _).trans (hb2.mono (by have := hbW.size; rw [World.size_alloc]; omega)))
    | (go_at_call 20; refine (written_any _ _ _ _ _ _ _ _ hx2 (by omega) (htab.below hbX)).mono ?_; rintro e w3 ⟨rfl, hb3⟩))
  go_ret2
  exact ⟨rfl, hbX.trans (hb3.mono hbX.size)⟩

set_option maxHeartbeats 1000000 in
theorem add_bad (s t : ByteArray) (w : World) (hs : s.size ≤ maxLen) (ht : t.size ≤ maxLen) (h : (numB s.data.toList && numB t.data.toList) = false) (z : Int) :
    Calls Tryd.prog 6 #[.string s, .string t] w (ApiIs w false z) := by
  go_enter Tryd.func6, Tryd.ntmps6
  go_wp2_with (go_at_call 18; refine (pair_bad s t _ hs ht h).mono ?_; rintro e w1 ⟨rfl, hb1⟩)
  go_ret2
  exact ⟨rfl, (hb1.alloc hb1.size _).alloc (by have := hb1.size; simp; omega) _⟩

theorem add_any (s t : ByteArray) (w : World) (hs : s.size ≤ maxLen) (ht : t.size ≤ maxLen) (htab : Tab w) :
    Calls Tryd.prog 6 #[.string s, .string t] w (ApiIs w (numB s.data.toList && numB t.data.toList) (strV s.data.toList + strV t.data.toList)) := by
  cases h : (numB s.data.toList && numB t.data.toList)
  · exact add_bad s t w hs ht h _
  · simp only [Bool.and_eq_true] at h
    exact add_ok s t w hs ht h.1 h.2 htab

set_option maxHeartbeats 1000000 in
theorem sub_ok (s t : ByteArray) (w : World) (hs : s.size ≤ maxLen) (ht : t.size ≤ maxLen) (h1 : numB s.data.toList = true) (h2 : numB t.data.toList = true) (htab : Tab w) :
    Calls Tryd.prog 8 #[.string s, .string t] w (ApiIs w true (strV s.data.toList - strV t.data.toList)) := by
  go_enter Tryd.func8, Tryd.ntmps8
  go_wp2_with (go_at_call 18; refine (pair_ok s t _ hs ht h1 h2).mono ?_; rintro e w1 ⟨a, p, n, c, xs, b, q, m, d, ys, rfl, hx, hy, hb1⟩; have hbA : Below w1.heap.size w1 ((w1.alloc (.cells #[.bool a, .slice p n c] 47)).alloc (.cells #[.bool b, .slice q m d] 47)) := (((Below.refl _ _).alloc (Nat.le_refl _) _).alloc (by simp) _); have hbW := hb1.trans (hbA.mono hb1.size); have hxA := hx.below hbA; have hyA := hy.below hbA; have B1 := (pair_boxes (W := w1) (.bool a) (.slice p n c) (.bool b) (.slice q m d) 47).1; have B2 := (pair_boxes (W := w1) (.bool a) (.slice p n c) (.bool b) (.slice q m d) 47).2)
  generalize ((w1.alloc (.cells #[.bool a, .slice p n c] 47)).alloc (.cells #[.bool b, .slice q m d] 47)) = wA at *
  have c0 : wA.drew.cell? _ = _ := B1.cell0
  have c1 : wA.drew.cell? _ = _ := B1.cell1
  have c2 : wA.drew.cell? _ = _ := B2.cell0
  have c3 : wA.drew.cell? _ = _ := B2.cell1
  go_region_held3 (fun w' => w'.cell? ⟨w1.heap.size, 0, none⟩ = some (.bool a) ∧ w'.cell? ⟨w1.heap.size, 1, none⟩ = some (.slice p n c) ∧ w'.cell? ⟨w1.heap.size + 1, 0, none⟩ = some (.bool b) ∧ w'.cell? ⟨w1.heap.size + 1, 1, none⟩ = some (.slice q m d))
      (((repeat' apply And.intro) <;> (repeat (first | (simp only [*]; done) | refine cell_alloc ?_ | refine cell_call (by assumption) ?_ | refine cell_call (W := wA.drew) (by assumption) ?_)); done))
      (first
        | (go_at_call 22; refine (opposite_num (show NumIs wA.drew b q m d ys _ 223 from { hyA with rd := hyA.rd })).mono ?_; rintro e w4 ⟨neg4, p4, n4, d4, xs4, rfl, hx4, hb4⟩; have e0 := cell_call (W := wA.drew) hb4 c0; have e1 := cell_call (W := wA.drew) hb4 c1; have e2 := cell_call (W := wA.drew) hb4 c2; have e3 := cell_call (W := wA.drew) hb4 c3; have hbV := hbW.drew.trans (hb4.mono hbW.size); have hxV := NumIs.below (show NumIs wA.drew a p n c xs _ 223 from { hxA with rd := hxA.rd }) hb4)
        | (go_at_call 19; refine (sum_two hxV hx4 (by omega) _ _ _ (by simp)).mono ?_; rintro e w2 ⟨neg2, p2, n2, d2, xs2, rfl, hx2, hb2⟩; have g0 := cell_call hb2 (cell_alloc e0); have g1 := cell_call hb2 (cell_alloc e1); have g2 := cell_call hb2 (cell_alloc e2); have g3 := cell_call hb2 (cell_alloc e3); have hbX := (hbV.alloc hbV.size _).trans (hb2.mono (by have := hbV.size; rw [World.size_alloc]; omega)))
        | (go_at_call 20; refine (written_any _ _ _ _ _ _ _ _ hx2 (by omega) (htab.below hbX)).mono ?_; rintro e w3 ⟨rfl, hb3⟩; have i0 := cell_call hb3 g0; have i1 := cell_call hb3 g1; have i2 := cell_call hb3 g2; have i3 := cell_call hb3 g3))
  all_goals go_wp2
  go_ret2
  exact ⟨rfl, hbX.trans (hb3.mono hbX.size)⟩

set_option maxHeartbeats 1000000 in
theorem sub_bad (s t : ByteArray) (w : World) (hs : s.size ≤ maxLen) (ht : t.size ≤ maxLen) (h : (numB s.data.toList && numB t.data.toList) = false) (z : Int) :
    Calls Tryd.prog 8 #[.string s, .string t] w (ApiIs w false z) := by
  go_enter Tryd.func8, Tryd.ntmps8
  go_wp2_with (go_at_call 18; refine (pair_bad s t _ hs ht h).mono ?_; rintro e w1 ⟨rfl, hb1⟩)
  go_ret2
  exact ⟨rfl, (hb1.alloc hb1.size _).alloc (by have := hb1.size; simp; omega) _⟩

theorem sub_any (s t : ByteArray) (w : World) (hs : s.size ≤ maxLen) (ht : t.size ≤ maxLen) (htab : Tab w) :
    Calls Tryd.prog 8 #[.string s, .string t] w (ApiIs w (numB s.data.toList && numB t.data.toList) (strV s.data.toList - strV t.data.toList)) := by
  cases h : (numB s.data.toList && numB t.data.toList)
  · exact sub_bad s t w hs ht h _
  · simp only [Bool.and_eq_true] at h
    exact sub_ok s t w hs ht h.1 h.2 htab

end Go.Proofs.YtimcbmgmngkagaaDoor

namespace Go.Proofs.YtimcbmgmngkagaaDoor
open Go.RowKit
variable {P : Program} {Q : Exit → Act → World → Prop}

theorem countP_strict {p q : Nat → Bool} : ∀ (l : List Nat) (x : Nat), (∀ y, q y = true → p y = true) → x ∈ l → p x = true → q x = false → l.countP q + 1 ≤ l.countP p
  | [], x, _, hx, _, _ => by cases hx
  | y :: l, x, hpq, hx, hp, hq => by
    rw [List.countP_cons, List.countP_cons]
    rcases List.mem_cons.1 hx with rfl | hx
    · have := List.countP_mono_left (l := l) (fun y _ h => hpq y h)
      simp [hp, hq]; omega
    · have := countP_strict l x hpq hx hp hq
      by_cases h1 : q y = true
      · simp [h1, hpq y h1]; omega
      · simp [h1]; split <;> omega

def depsB (l : List Oper) (L : Nat → Bool) (i : Nat) : Bool := ((l[i]?).map fun o => o.after.all fun e => !Region.binds .any e || L e.on).getD false
def earlierB (l : List Oper) : Bool := (List.range l.length).all fun i => ((l[i]?).map fun o => o.after.all fun e => !Region.binds .any e || decide (e.on < i)).getD false

theorem depsB_all {l : List Oper} (hE : earlierB l = true) {L : Nat → Bool} {i : Nat} (hi : i < l.length) (h : ∀ j, j < i → L j = true) : depsB l L i = true := by
  have h1 := List.all_eq_true.1 hE i (List.mem_range.2 hi)
  unfold depsB
  rw [List.getElem?_eq_getElem hi] at h1 ⊢
  simp only [Option.map_some, Option.getD_some, Array.all_eq_true'] at h1 ⊢
  intro e he
  have := h1 e he
  simp only [Bool.or_eq_true, decide_eq_true_eq] at this ⊢
  rcases this with h2 | h2
  · exact .inl h2
  · exact .inr (h _ h2)


theorem all_listed {l : List Oper} (hE : earlierB l = true) {L : Nat → Bool} (h : ∀ i, i < l.length → L i = false → depsB l L i = false) : ∀ i, i < l.length → L i = true := by
  intro i
  induction i using Nat.strongRecOn with
  | _ i ih =>
    intro hi
    cases hL : L i
    · have := h i hi hL
      rw [depsB_all hE hi (fun j hj => ih j hj (by omega))] at this
      cases this
    · rfl

theorem mem_ready_iff {l : List Oper} {listed : Array Bool} {L : Nat → Bool} (hs : listed.size = l.length) (hL : ∀ i, listed.getD i false = L i) (i : Nat) :
    i ∈ Region.ready .any l.toArray listed ↔ i < l.length ∧ L i = false ∧ depsB l L i = true := by
  unfold Region.ready depsB
  simp only [List.mem_filter, List.mem_range, List.size_toArray, Bool.and_eq_true, Bool.not_eq_true', List.getElem?_toArray, hL]
  constructor
  · rintro ⟨h1, h2, h3⟩
    refine ⟨h1, ?_, h3⟩
    rw [← hL, ← h2]
    simp [Array.getD, hs, h1]
  · rintro ⟨h1, h2, h3⟩
    refine ⟨h1, ?_, h3⟩
    rw [← h2, ← hL]
    simp [Array.getD, hs, h1]

theorem wpAny_inv {l : List Oper} (hE : earlierB l = true) (I : (Nat → Bool) → Act → World → Prop)
    (step : ∀ L i a w, I L a w → i < l.length → L i = false → depsB l L i = true → wpOp P l.toArray Q i (I (fun j => L j || j == i)) a w)
    (done : ∀ L a w, (∀ i, i < l.length → L i = true) → I L a w → Q .normal a w) :
    ∀ (f : Nat) (listed : Array Bool) (L : Nat → Bool) (a : Act) (w : World), listed.size = l.length → (∀ i, listed.getD i false = L i) → (List.range l.length).countP (fun i => !L i) ≤ f → I L a w → wpAny P .any l.toArray Q f listed a w := by
  intro f
  induction f with
  | zero =>
    intro listed L a w hs hL hc hI
    have hall : ∀ i, i < l.length → L i = true := by
      intro i hi
      have := List.countP_eq_zero.1 (Nat.le_zero.1 hc) i (List.mem_range.2 hi)
      simpa using this
    refine ⟨List.eq_nil_iff_forall_not_mem.2 fun i hi => ?_, done L a w hall hI⟩
    obtain ⟨h1, h2, _⟩ := (mem_ready_iff hs hL i).1 hi
    rw [hall i h1] at h2; cases h2
  | succ f ih =>
    intro listed L a w hs hL hc hI
    refine ⟨fun hr => done L a w (all_listed hE fun i hi h => ?_) hI, fun i hi => ?_⟩
    · cases hd : depsB l L i
      · rfl
      · have := (mem_ready_iff hs hL i).2 ⟨hi, h, hd⟩
        rw [hr] at this; cases this
    · obtain ⟨h1, h2, h3⟩ := (mem_ready_iff hs hL i).1 hi
      have := step L i a w hI h1 h2 h3
      refine wpOp_mono (fun a w h => ih _ (fun j => L j || j == i) a w (by simp [hs]) (fun j => ?_) ?_ h) this
      · rw [← hL]
        simp only [Array.getD_eq_getD_getElem?, Array.getElem?_setIfInBounds]
        by_cases e : i = j
        · subst e; simp [hs, h1]
        · have : (j == i) = false := by simp; omega
          simp [e, this]
      · have := countP_strict (p := fun j => !L j) (q := fun j => !(L j || j == i)) (List.range l.length) i (fun y hy => by simp at hy ⊢; exact hy.1) (List.mem_range.2 h1) (by simp [h2]) (by simp)
        omega

theorem wp_region_inv {id : Nat} {l : List Oper} {a : Act} {w : World} (hm : P.follows .mixedOrders = true) (hE : earlierB l = true) (I : (Nat → Bool) → Act → World → Prop) (h0 : I (fun _ => false) a w.drew)
    (step : ∀ L i a w, I L a w → i < l.length → L i = false → depsB l L i = true → wpOp P l.toArray Q i (I (fun j => L j || j == i)) a w)
    (done : ∀ L a w, (∀ i, i < l.length → L i = true) → I L a w → Q .normal a w) : (Code.region id l.toArray true).wp P Q a w := by
  refine wp_region_any hm (wpAny_inv hE I step done _ _ (fun _ => false) _ _ (by simp) (fun i => ?_) ?_ h0)
  · exact getD_replicate_false _ _
  · refine Nat.le_trans (List.countP_le_length) ?_
    simp

theorem wp_post {o : Oper} {a : Act} {w : World} {K : Act → World → Prop} {Q Q' : Exit → Act → World → Prop} (hq : ∀ e a w, e ≠ .normal → Q e a w → Q' e a w) (hh : o.wp P a w K Q) : o.wp P a w K Q' := by
  have hL : LetsOut Q → LetsOut Q' := fun ⟨b, v, h⟩ => ⟨b, v, hq _ _ _ (by simp) h⟩
  unfold Oper.wp at *
  generalize (execOp a.eval o).run P w = r at *
  cases r with
  | ok r w' =>
    cases r <;> simp only [Oper.upon] at hh ⊢ <;> try exact hh
    case enter f args =>
      exact Calls.mono hh fun e w'' he => by
        cases e with
        | returned v => exact he
        | panicked c => exact hq _ _ _ (by simp) he
        | outgrown => exact hL he
  | halt x w' =>
    cases x <;> simp only [Oper.upon] at hh ⊢
    case panic v => exact hq _ _ _ (by simp) hh

/-- One operation. -/
theorem wpOp_list {ops : Array Oper} {i : Nat} {o : Oper} {K : Act → World → Prop} {a : Act} {w : World} (ho : ops[i]? = some o) (h : wpList P ops (fun e a w => (e = .normal → K a w) ∧ (e ≠ .normal → Q e a w)) [o] a w) : wpOp P ops Q i K a w := by
  unfold wpOp
  unfold wpList at h
  simp only [ho]
  split at h
  · rename_i hw
    rw [if_pos hw]
    rcases h with h | ⟨h1, b, v, h2⟩
    · left
      refine Oper.wp_mono (fun a w h => ?_) (wp_post (fun e a w he h => h.2 he) h)
      exact h.1 rfl
    · exact .inr ⟨h1, b, v, h2.2 (by simp)⟩
  · rename_i hw
    rw [if_neg hw]
    exact h.1 rfl

end Go.Proofs.YtimcbmgmngkagaaDoor
