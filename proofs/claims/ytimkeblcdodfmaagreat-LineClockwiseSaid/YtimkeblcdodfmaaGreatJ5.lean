/-
  LineClockwise, its walk; A list of vectors among the arguments, as the walks read it.
-/
import Derived.Test.YtimkeblcdodfmaaGreatK1
import Derived.Test.YtimkeblcdodfmaaGreatK2
import Derived.Test.YtimkeblcdodfmaaGreatK3
import Derived.Test.YtimkeblcdodfmaaGreatK4
import Derived.Test.YtimkeblcdodfmaaGreatK5
import Derived.Test.YtimkeblcdodfmaaGreatK6
import Derived.Test.YtimkeblcdodfmaaGreatK7
import Derived.Test.YtimkeblcdodfmaaGreatK8
import Derived.Test.YtimkeblcdodfmaaGreatK9
import Derived.Test.YtimkeblcdodfmaaGreatK10
import Derived.Test.YtimkeblcdodfmaaGreatK11
import Derived.Test.YtimkeblcdodfmaaGreatK12
import Derived.Test.YtimkeblcdodfmaaGreatK13
import Derived.Test.YtimkeblcdodfmaaGreatK14
import Derived.Test.YtimkeblcdodfmaaGreatK15
import Derived.Test.YtimkeblcdodfmaaGreatK16
import Derived.Test.YtimkeblcdodfmaaGreatK17
import Derived.Test.YtimkeblcdodfmaaGreatK18
import Derived.Test.YtimkeblcdodfmaaGreatK19
import Derived.Test.YtimkeblcdodfmaaGreatK20
import Derived.Test.YtimkeblcdodfmaaGreatK21
import Derived.Test.YtimkeblcdodfmaaGreatK22
import Derived.Test.YtimkeblcdodfmaaGreatK23
import Derived.Test.YtimkeblcdodfmaaGreatK24
import Derived.Test.YtimkeblcdodfmaaGreatK25
import Derived.Test.YtimkeblcdodfmaaGreatJ1
import Derived.Test.YtimkeblcdodfmaaGreatJ2
import Derived.Test.YtimkeblcdodfmaaGreatJ3
import Derived.Test.YtimkeblcdodfmaaGreatJ4
namespace Go.Proofs.YtimkeblcdodfmaaGreat
open Go.RowKit Go.Shelf
attribute [local go_sem] Oper.semAt_some

/-- All of the first i vectors are directions. -/
def wayN (R0 : Bool) (p : V4) (xs : List V3) (i : Nat) : Bool := R0 && (xs.take i).all (isInB p)
theorem wayN_step {R0 : Bool} {p : V4} {xs : List V3} {i : Nat} {q : V3} (h : xs[i]? = some q) : wayN R0 p xs (i + 1) = (wayN R0 p xs i && isInB p q) := by
  unfold wayN
  rw [List.take_add_one, h]
  simp [List.all_append, Bool.and_assoc]
theorem wayN_off {R0 : Bool} {p : V4} {xs : List V3} {i : Nat} (h : wayN R0 p xs i = false) (hi : i < xs.length) : wayN R0 p xs (i + 1) = false := by
  rw [wayN_step (List.getElem?_eq_getElem hi), h]; rfl
theorem firstE_1 {r : Int} {l : List Int} (h : r ≠ 0) : firstE (r :: l) = r := by
  unfold firstE
  split <;> simp_all
theorem firstE_0 {l : List Int} : firstE (0 :: l) = firstE l := by
  rw [firstE]; simp
theorem errE_t (e : Int) : errE true e = 0 := rfl
theorem errE_f (e : Int) : errE false e = e := rfl
theorem clk_cases (p : V4) (u : V3) (xs : List V3) (m : Nat) (hl : xs.length = m) (hm : m ≤ 1000) : ∃ (D R : Bool) (E K : Int), decide (RightQ p) = D ∧ wayN (isInB p u && decide (0 < (m : Int))) p xs m = R ∧ clkE p u xs = E ∧ clkS p u xs = K ∧
    ((D = false ∧ E = 30 ∧ K = 0) ∨ (D = true ∧ R = false ∧ E = 1 ∧ K = 0) ∨ (D = true ∧ R = true ∧ E = 0 ∧ RightQ p ∧ isInB p u = true ∧ (∀ y ∈ xs, isInB p y = true) ∧ xs ≠ [] ∧ K = firstV (nrm p) u xs)) := by
  refine ⟨_, _, _, _, rfl, rfl, rfl, rfl, ?_⟩
  have hw : wayN (isInB p u && decide (0 < (m : Int))) p xs m = (isInB p u && decide (0 < (m : Int)) && xs.all (isInB p)) := by unfold wayN; rw [← hl, List.take_length]
  rw [hw]
  by_cases h : RightQ p
  · right
    have hE : clkE p u xs = firstE [someE m, errE (isInB p u) 1, errE (xs.all (isInB p)) 1] := by
      unfold clkE
      rw [decide_eq_true h, errE_t, firstE_0, hl]
      simp
    by_cases hm0 : m = 0
    · left
      subst hm0
      have e : clkE p u xs = 1 := by rw [hE]; exact firstE_1 (by decide)
      exact ⟨decide_eq_true h, by simp, e, by unfold clkS; rw [e, if_neg (by decide)]⟩
    · have hs : someE m = 0 := by unfold someE; rw [if_neg (by omega)]
      have hmi : decide (0 < (m : Int)) = true := decide_eq_true (by omega)
      rw [hs, firstE_0] at hE
      rw [hmi, Bool.and_true]
      cases hu : isInB p u with
      | false =>
        left
        rw [hu, errE_f] at hE
        have e : clkE p u xs = 1 := by rw [hE]; exact firstE_1 (by decide)
        exact ⟨decide_eq_true h, rfl, e, by unfold clkS; rw [e, if_neg (by decide)]⟩
      | true =>
        rw [hu, errE_t, firstE_0] at hE
        cases hx : xs.all (isInB p) with
        | false =>
          left
          rw [hx, errE_f] at hE
          have e : clkE p u xs = 1 := by rw [hE]; exact firstE_1 (by decide)
          exact ⟨decide_eq_true h, rfl, e, by unfold clkS; rw [e, if_neg (by decide)]⟩
        | true =>
          right
          rw [hx, errE_t, firstE_0] at hE
          have e : clkE p u xs = 0 := by rw [hE]; rfl
          exact ⟨decide_eq_true h, rfl, e, h, rfl, List.all_eq_true.1 hx, fun hn => hm0 (by rw [← hl, hn]; rfl), by unfold clkS; rw [e, if_pos rfl]⟩
  · left
    have e : clkE p u xs = 30 := by unfold clkE; rw [decide_eq_false h, errE_f]; exact firstE_1 (by decide)
    exact ⟨decide_eq_false h, e, by unfold clkS; rw [e, if_neg (by decide)]⟩

/-- Of equal directions the first one. -/
theorem best_same {n f v : V3} {l : List V3} (h : ∀ y ∈ l, y = v) (hc : crsV v v = ⟨0, 0, 0⟩) (hd : 0 < dotV v v) : ∀ i, i < l.length → bestN n f l i = 0
  | 0, _ => rfl
  | i + 1, hi => by
    have hat : ∀ k, k < l.length → atV l k = v := fun k hk => by
      unfold atV
      rw [List.getElem?_eq_getElem hk]
      exact h _ (List.getElem_mem hk)
    have ha : angV n v v = 0 := by
      unfold angV
      rw [hc]
      have : dotV n ⟨0, 0, 0⟩ = 0 := by unfold dotV; simp
      rw [this, if_neg (by decide), if_neg (by decide), if_pos (sgnI_gt.2 hd)]
    unfold bestN
    rw [best_same h hc hd i (by omega), hat _ hi, hat 0 (by omega)]
    simp [ha]
theorem ways_many {ys : List V3} (hl : ys.length = 1001) (h : ∀ k, k < 1001 → ys[k]? = some ⟨1, 0, 0⟩) :
    clkE ⟨0, 0, 1, 0⟩ ⟨0, 1, 0⟩ ys = 1 ∧ clkE ⟨0, 0, 1, 0⟩ ⟨1, 0, 0⟩ (ys.take 1000) = 0 ∧ clkS ⟨0, 0, 1, 0⟩ ⟨1, 0, 0⟩ (ys.take 1000) = 0 := by
  have hall : ∀ q ∈ ys, q = ⟨1, 0, 0⟩ := fun q hq => by
    obtain ⟨k, hk, rfl⟩ := List.getElem_of_mem hq
    have h1 := h k (by rw [← hl]; exact hk)
    rw [List.getElem?_eq_getElem hk] at h1
    exact Option.some.inj h1
  have hright : RightQ ⟨0, 0, 1, 0⟩ := by unfold RightQ RightP; decide
  have hb1 : isInB ⟨0, 0, 1, 0⟩ ⟨1, 0, 0⟩ = true := by decide +kernel
  have htl : (ys.take 1000).length = 1000 := by rw [List.length_take, hl]; rfl
  have hallt : ∀ q ∈ ys.take 1000, q = ⟨1, 0, 0⟩ := fun q hq => hall q (List.mem_of_mem_take hq)
  have hx : (ys.take 1000).all (isInB ⟨0, 0, 1, 0⟩) = true := List.all_eq_true.2 (fun q hq => by rw [hallt q hq]; exact hb1)
  have hE : clkE ⟨0, 0, 1, 0⟩ ⟨1, 0, 0⟩ (ys.take 1000) = 0 := by
    unfold clkE
    rw [decide_eq_true hright, errE_t, firstE_0, htl, show someE 1000 = 0 from rfl, firstE_0, hx]
    simp only [List.all_cons, List.all_nil, hb1, Bool.and_true]
    rfl
  refine ⟨?_, hE, ?_⟩
  · unfold clkE
    rw [decide_eq_true hright, errE_t, firstE_0, hl]
    exact firstE_1 (by decide)
  · unfold clkS
    have hne : ys.take 1000 ≠ [] := fun e => by rw [e] at htl; cases htl
    rw [hE, if_pos rfl, firstV_best hne, best_same hallt (by decide) (by decide) _ (by rw [htl]; decide)]
    rfl

set_option maxRecDepth 100000 in
set_option maxHeartbeats 8000000 in
theorem lineClockwise_walk (p : V4) (u : V3) (a : Option Addr) (n cap : Nat) (l : List V3) (w : World) (hp : InV p) (hu : In3 u) (hl : l.length = n) (hn : n ≤ maxLen) (hcap : n ≤ cap) (hr : RdD w a l) (hi : ∀ q ∈ l, In3 q) :
    Calls Tryz.prog 7 #[.agg #[.int .i64 p.a, .int .i64 p.b, .int .i64 p.c, .int .i64 p.d], .agg #[.int .i64 u.a, .int .i64 u.b, .int .i64 u.c], .slice a n cap] w fun e w' => e = .returned (.bool true) ∧ Below w.heap.size w w' := by
  obtain ⟨w1, hw1⟩ : ∃ w1, ((w.alloc (.cells #[.int .i64 p.a, .int .i64 p.b, .int .i64 p.c, .int .i64 p.d] 23)).alloc (.cells #[.int .i64 u.a, .int .i64 u.b, .int .i64 u.c] 24)) = w1 := ⟨_, rfl⟩
  have hb1 : Below w.heap.size w w1 := by rw [← hw1]; exact bw2 w _ _
  have k0 : Blk w1 (w.heap.size) #[.int .i64 p.a, .int .i64 p.b, .int .i64 p.c, .int .i64 p.d] 23 := by rw [← hw1]; exact ((Blk.new w _ _).alloc _)
  have k1 : Blk w1 (w.heap.size + 1) #[.int .i64 u.a, .int .i64 u.b, .int .i64 u.c] 24 := by rw [← hw1]; exact (Blk.new' _ _ _ (by simp))
  have hkl : w.heap.size + 1 < w1.heap.size := k1.lt
  have HI := Lib.hid (And.intro hl (And.intro (hr.below hb1) hi))
  have hn63 : (n : Int) ≤ 9223372036854775807 := by unfold maxLen at hn; omega
  clear hl hr hi hn
  go_enter Tryz.func7, Tryz.ntmps7
  go_upto_region 2 with fail
  go_cut [7] from 22 to 28 (fun v7 wx => ∃ (p3 : Option Addr) (m c3 : Nat) (xs : List V3), v7 = .slice p3 m c3 ∧ Hid (xs.length = m ∧ m ≤ 8 ∧ ∀ q ∈ xs, In3 q) ∧ Hid (RdY w1.heap.size wx p3 xs) ∧ Below w1.heap.size w1 wx)
  case first =>
    clear k0 k1 hp hu
    obtain ⟨m, hm, hmn, hm8, hmin⟩ : ∃ m : Nat, m ≤ n ∧ (m = n ∨ m = 8) ∧ m ≤ 8 ∧ min (n : Int) 8 = (m : Int) := by
      by_cases h : n ≤ 8
      · exact ⟨n, Nat.le_refl _, .inl rfl, h, by omega⟩
      · exact ⟨8, by omega, .inr rfl, Nat.le_refl _, by omega⟩
    have hmi : (m : Int) ≤ (cap : Int) := by omega
    have hmi2 : (m : Int) ≤ (n : Int) := by omega
    by_cases hm0 : m = 0
    · subst hm0
      cases a with
      | none =>
        go_wp2_with fail
        go_meet
        case rel => exact ⟨none, 0, 0, [], rfl, ⟨rfl, by decide, fun q h => by cases h⟩, .inl rfl, Below.refl _ _⟩
      | some a =>
        go_wp2_with fail
        go_meet
        case rel => exact ⟨none, 0, 0, [], rfl, ⟨rfl, by decide, fun q h => by cases h⟩, .inl rfl, Below.refl _ _⟩
    · have hpos : 0 < l.length := by rw [HI.out.1]; omega
      obtain ⟨b, off, rfl⟩ : ∃ b off, a = some ⟨b, off, none⟩ := by
        obtain ⟨b, off, e, _⟩ := HI.out.2.1 0 l[0] (List.getElem?_eq_getElem hpos)
        exact ⟨b, off, e⟩
      have htl : (l.take m).length = m := by rw [List.length_take, HI.out.1]; omega
      have hrt : RdD w1 (some ⟨b, off, none⟩) (l.take m) := fun i q h => HI.out.2.1 i q (by
        by_cases h1 : i < m
        · rwa [List.getElem?_take_of_lt h1] at h
        · rw [List.getElem?_take_eq_none (by omega)] at h; cases h)
      have HTL := Lib.hid htl
      have HMB := Lib.hid hm8
      clear hpos
      go_wp2_with (at_builtin; refine pushVD_law rfl _ _ rfl rfl (GrVD.nil w1 w1.heap.size) htl hrt rfl (by decide) (Nat.le_trans HMB.out (by decide)) (Nat.le_refl _) ?_; intro v1 w2 hg1 hb2)
      rcases hg1.row with ⟨_, he⟩ | ⟨g, c, rfl, hg, hc, hrow⟩
      · exfalso
        rw [List.nil_append] at he
        have := HTL.out
        rw [he] at this
        exact hm0 this.symm
      · rw [List.nil_append] at hrow hc
        rw [List.nil_append, HTL.out]
        have HRW := Lib.hid hrow
        have HB1 := Lib.hid hb2
        have HG1 := Lib.hid hg
        clear hrow hb2 hg hg1 hc htl hrt
        go_wp2_with fail
        go_meet
        case rel => exact ⟨_, m, c, l.take m, rfl, ⟨HTL.out, HMB.out, fun q h => HI.out.2.2 q (List.mem_of_mem_take h)⟩, .inr ⟨g, rfl, HG1.out, HRW.out⟩, HB1.out⟩
  case rest =>
  obtain ⟨p3, m, c3, xs0, rfl, HX0, HR, hb0⟩ := hcut
  have k0 := k0.kept hb0
  have k1 := k1.kept hb0
  have hb := hb1.trans (hb0.mono hb1.size)
  obtain ⟨G0, hG0⟩ : ∃ G0, w1.heap.size = G0 := ⟨_, rfl⟩
  rw [hG0] at HR hkl
  clear HI hb0 hb1 hG0 hn63 hcap hw1
  go_wp2_with fail
  go_loopg [8] 2 (fun gk v8 wr => ∃ (j : Nat) (p : V4) (u : V3) (xs : List V3), j ≤ 2 ∧ gk = 2 - j ∧ v8 = .int .i64 (j : Int) ∧ Hid (InV p ∧ In3 u ∧ xs.length = m ∧ m ≤ 8 ∧ ∀ q ∈ xs, In3 q) ∧ Blk wr (w.heap.size) #[.int .i64 p.a, .int .i64 p.b, .int .i64 p.c, .int .i64 p.d] 23 ∧ Blk wr (w.heap.size + 1) #[.int .i64 u.a, .int .i64 u.b, .int .i64 u.c] 24 ∧ Hid (RdY G0 wr p3 xs) ∧ Below w.heap.size w wr)
  case atStart => exact ⟨0, p, u, xs0, by decide, rfl, rfl, ⟨hp, hu, HX0.out.1, HX0.out.2.1, HX0.out.2.2⟩, k0, k1, HR.out, hb⟩
  case round =>
    clear HX0 HR hb hp hu k0 k1
    obtain ⟨j, p, u, xs, hj, hgk, rfl, HX, k0, k1, HR, hb⟩ := hrel
    have HGK := Lib.hid hgk
    clear hgk
    by_cases hj2 : j < 2
    · have hji : (j : Int) < 2 := by omega
      have hm8 : m ≤ 8 := HX.out.2.2.2.1
      have hsz : w.heap.size + 1 < wr.heap.size := k1.lt
      have htp := fun W => tame_any p 3 W HX.out.1 (by decide) (by decide)
      have ipr : RightQ (tameV p 3) := tame_right (by decide) (by decide)
      obtain ⟨pp, hpp⟩ : ∃ y, tameV p 3 = y := ⟨_, rfl⟩
      rw [hpp] at htp ipr
      have hwu := fun W => way_any pp u W (nrm_far ipr) HX.out.2.1
      have hfu : Far (wayV (nrm pp) u) 8000 := wayV_far (nrm_far ipr)
      obtain ⟨uu, huu⟩ : ∃ y, wayV (nrm pp) u = y := ⟨_, rfl⟩
      rw [huu] at hwu hfu
      have HTP := Lib.hid htp
      have HWU := Lib.hid hwu
      have HPP := Lib.hid (And.intro ipr (far_in hfu (by decide)))
      clear htp hwu ipr hpp huu hfu
      have hc := clockwise_any p u p3 m c3 xs wr HX.out.1 HX.out.2.2.1 (by omega) HR.out.rd
      have hrr := fun W => right3_any p.a p.b p.c p.d W HX.out.1.1 HX.out.1.2.1 HX.out.1.2.2.1 HX.out.1.2.2.2
      have h1 := fun W => wayR_any p u W HX.out.2.1
      obtain ⟨D, R, E, K, hD, hR, hE, hK, hcase⟩ := clk_cases p u xs m HX.out.2.2.1 (by omega)
      rw [show decide (RightP p.a p.b p.c p.d) = D from hD] at hrr
      rw [hE, hK] at hc
      obtain ⟨bu, hbu⟩ : ∃ y, isInB p u = y := ⟨_, rfl⟩
      rw [hbu] at h1 hR
      have HCK := Lib.hid hc
      have HRR := Lib.hid hrr
      have H1 := Lib.hid h1
      have HC := Lib.hid hcase
      have HWN := Lib.hid hR
      clear hc hrr h1 hcase hD hR hE hK
      have a0 := k0.cell (i := 0) rfl
      have a1 := k0.cell (i := 1) rfl
      have a2 := k0.cell (i := 2) rfl
      have a3 := k0.cell (i := 3) rfl
      have b0 := k1.cell (i := 0) rfl
      have b1 := k1.cell (i := 1) rfl
      have b2 := k1.cell (i := 2) rfl
      go_wp2_with fail
      refine HCK.out.mono ?_
      rintro e' wa ⟨rfl, ha⟩
      clear a0 a1 a2 a3 b0 b1 b2
      clear HCK
      have k0 := k0.kept ha
      have k1 := k1.kept ha
      have HR := Lib.hid (HR.out.below ha)
      have hb := hb.trans (ha.mono hb.size)
      clear ha
      have a0 := k0.cell (i := 0) rfl
      have a1 := k0.cell (i := 1) rfl
      have a2 := k0.cell (i := 2) rfl
      have a3 := k0.cell (i := 3) rfl
      go_wp2_with fail
      refine (HRR.out _).mono ?_
      rintro e' wd ⟨rfl, hc⟩
      clear a0 a1 a2 a3 HRR
      have k0 := k0.kept hc
      have k1 := k1.kept hc
      have HR := Lib.hid (HR.out.below hc)
      have hb := hb.trans (hc.mono hb.size)
      clear hc
      go_upto_if 42 with fail
      go_cut [11] from 29 to 110 (fun v11 wx => v11 = .int .i64 E ∧ Below wd.heap.size wd wx)
      case first =>
        cases D with
        | false =>
          have hE0 : E = 30 := by
            rcases HC.out with ⟨_, h, _⟩ | ⟨h, _⟩ | ⟨h, _⟩
            · exact h
            · cases h
            · cases h
          have HE0 := Lib.hid hE0
          clear hE0
          go_wp2_with fail
          go_meet
          case rel => exact ⟨by rw [HE0.out], Below.refl _ _⟩
        | true =>
          have hER : E = if R = true then 0 else 1 := by
            rcases HC.out with ⟨h, _⟩ | ⟨_, h, h2, _⟩ | ⟨_, h, h2, _⟩
            · cases h
            · rw [h, h2]; rfl
            · rw [h, h2]; rfl
          have HER := Lib.hid hER
          clear hER
          go_upto_region 10 with fail
          go_cut [12] from 29 to 110 (fun v12 wx => v12 = .bool (bu && decide (0 < (m : Int))) ∧ Below wd.heap.size wd wx)
          case first =>
            have a0 := k0.cell (i := 0) rfl
            have a1 := k0.cell (i := 1) rfl
            have a2 := k0.cell (i := 2) rfl
            have a3 := k0.cell (i := 3) rfl
            have b0 := k1.cell (i := 0) rfl
            have b1 := k1.cell (i := 1) rfl
            have b2 := k1.cell (i := 2) rfl
            go_wp2_with fail
            refine (H1.out _).mono ?_
            rintro e' w1 ⟨rfl, hw1⟩
            cases bu with
            | false =>
              go_wp2_with fail
              go_meet
              case rel => exact ⟨rfl, hw1⟩
            | true =>
              go_wp2_with fail
              go_meet
              case rel => exact ⟨by simp, hw1⟩
          case rest =>
          obtain ⟨rfl, hbo⟩ := hcut
          generalize wc = wb at *
          generalize (bu && decide (0 < (m : Int))) = R0 at *
          clear H1 hbu
          go_wp2_with fail
          go_loopg [12, 13] m (fun gk v12 v13 wx => ∃ i : Nat, i ≤ m ∧ gk = m - i ∧ v13 = .int .i64 (i : Int) ∧ v12 = .bool (wayN R0 p xs i) ∧ Below wd.heap.size wd wx)
          case atStart => exact ⟨0, by omega, rfl, rfl, by unfold wayN; simp, hbo⟩
          case round =>
            clear hbo
            obtain ⟨i, hi, hgi, rfl, rfl, hbo⟩ := hrel
            have HGI := Lib.hid hgi
            clear hgi
            by_cases hlt : i < m
            · have hlti : (i : Int) < (m : Int) := by omega
              have hil : i < xs.length := by rw [HX.out.2.2.1]; exact hlt
              cases hw : wayN R0 p xs i with
              | false =>
                have HW := Lib.hid (wayN_off hw hil)
                clear hw hil
                generalize wr = wo at *
                go_upto_region 14 with fail
                refine wp_region_last 9 (fun ix => match ix with | 0 => .bool false | 1 => .bool false | 2 => undef | 3 => undef | 4 => undef | 5 => undef | 6 => undef | 7 => undef | _ => .bool false) (by kernel_rfl) (by kernel_rfl) rfl (by kernel_rfl) ?_ ?_
                · rintro ix hx f ww hS hd
                  rcases ix with _ | _ | _ | _ | _ | _ | _ | _ | _ | ix
                  · refine wpOp_list rfl ?_
                    simp only [List.take_succ_cons, List.take_zero, tmOf, putAll, List.map_cons, List.map_nil, List.setIfInBounds_toArray, List.set_cons_zero, List.set_cons_succ]
                    go_wp2
                    simp [upd, Below.refl]
                  · have g0 : f 0 = .bool false := hd 0 (by kernel_rfl) (by decide)
                    refine wpOp_list rfl ?_
                    simp only [List.take_succ_cons, List.take_zero, tmOf, putAll, List.map_cons, List.map_nil, List.setIfInBounds_toArray, List.set_cons_zero, List.set_cons_succ]
                    go_wp2
                    simp [upd, g0, Below.refl]
                  · have g1 : f 1 = .bool false := hd 1 (by kernel_rfl) (by decide)
                    simp only [List.take_succ_cons, List.take_zero, tmOf, putAll, List.map_cons, List.map_nil, List.setIfInBounds_toArray, List.set_cons_zero, List.set_cons_succ]
                    refine wpOp_off rfl (unwanted_of (b := false) rfl rfl rfl (congrArg some g1)) ?_
                    simp [tmOf, Act.put, putAll, upd, Below.refl]
                  · have g1 : f 1 = .bool false := hd 1 (by kernel_rfl) (by decide)
                    simp only [List.take_succ_cons, List.take_zero, tmOf, putAll, List.map_cons, List.map_nil, List.setIfInBounds_toArray, List.set_cons_zero, List.set_cons_succ]
                    refine wpOp_off rfl (unwanted_of (b := false) rfl rfl rfl (congrArg some g1)) ?_
                    simp [tmOf, Act.put, putAll, upd, Below.refl]
                  · have g1 : f 1 = .bool false := hd 1 (by kernel_rfl) (by decide)
                    simp only [List.take_succ_cons, List.take_zero, tmOf, putAll, List.map_cons, List.map_nil, List.setIfInBounds_toArray, List.set_cons_zero, List.set_cons_succ]
                    refine wpOp_off rfl (unwanted_of (b := false) rfl rfl rfl (congrArg some g1)) ?_
                    simp [tmOf, Act.put, putAll, upd, Below.refl]
                  · have g1 : f 1 = .bool false := hd 1 (by kernel_rfl) (by decide)
                    simp only [List.take_succ_cons, List.take_zero, tmOf, putAll, List.map_cons, List.map_nil, List.setIfInBounds_toArray, List.set_cons_zero, List.set_cons_succ]
                    refine wpOp_off rfl (unwanted_of (b := false) rfl rfl rfl (congrArg some g1)) ?_
                    simp [tmOf, Act.put, putAll, upd, Below.refl]
                  · have g1 : f 1 = .bool false := hd 1 (by kernel_rfl) (by decide)
                    simp only [List.take_succ_cons, List.take_zero, tmOf, putAll, List.map_cons, List.map_nil, List.setIfInBounds_toArray, List.set_cons_zero, List.set_cons_succ]
                    refine wpOp_off rfl (unwanted_of (b := false) rfl rfl rfl (congrArg some g1)) ?_
                    simp [tmOf, Act.put, putAll, upd, Below.refl]
                  · have g1 : f 1 = .bool false := hd 1 (by kernel_rfl) (by decide)
                    simp only [List.take_succ_cons, List.take_zero, tmOf, putAll, List.map_cons, List.map_nil, List.setIfInBounds_toArray, List.set_cons_zero, List.set_cons_succ]
                    refine wpOp_off rfl (unwanted_of (b := false) rfl rfl rfl (congrArg some g1)) ?_
                    simp [tmOf, Act.put, putAll, upd, Below.refl]
                  · have g1 : f 1 = .bool false := hd 1 (by kernel_rfl) (by decide)
                    have g7 : f 7 = undef := hd 7 (by kernel_rfl) (by decide)
                    refine wpOp_list rfl ?_
                    simp only [List.take_succ_cons, List.take_zero, tmOf, putAll, List.map_cons, List.map_nil, List.setIfInBounds_toArray, List.set_cons_zero, List.set_cons_succ]
                    go_wp2
                    simp [upd, g1, g7, Below.refl]
                  · omega
                · rintro f' ww hS hd
                  have gl : f' 8 = .bool false := hd 8 (by decide)
                  have hbo := hbo.trans (hS.mono hbo.size)
                  refine wpOp_list rfl ?_
                  simp only [List.take_succ_cons, List.take_zero, tmOf, putAll, List.map_cons, List.map_nil, List.setIfInBounds_toArray, List.set_cons_zero, List.set_cons_succ]
                  go_wp2
                  try simp only [Exit.inBlock, Exit.then]
                  go_wp2_with fail
                  go_roundg (m - (i + 1))
                  case measure => rw [HGI.out]; omega
                  case rel => exact ⟨i + 1, by omega, rfl, by go_num, by rw [HW.out]; try exact gl, hbo⟩
              | true =>
                have hst := wayN_step (R0 := R0) (p := p) (List.getElem?_eq_getElem hil)
                rw [hw, Bool.true_and] at hst
                obtain ⟨bb, off, rfl, hgb, g0, g1, g2⟩ := HR.out.rd i _ (List.getElem?_eq_getElem hil)
                have hqi := HX.out.2.2.2.2 _ (List.getElem_mem hil)
                generalize xs[i] = q at *
                have hwq := fun W => wayR_any p q W hqi
                obtain ⟨bq, hbq⟩ : ∃ y, isInB p q = y := ⟨_, rfl⟩
                rw [hbq] at hwq hst
                have HQ := Lib.hid hwq
                have HW := Lib.hid hst
                clear hwq hst hw hil hqi hbq
                have g0 := (hbo.cell (p := ⟨bb, off + i * 3, none⟩) hgb).trans g0
                have g1 := (hbo.cell (p := ⟨bb, off + i * 3 + 1, none⟩) hgb).trans g1
                have g2 := (hbo.cell (p := ⟨bb, off + i * 3 + 2, none⟩) hgb).trans g2
                have hgb := Nat.lt_of_lt_of_le hgb hbo.size
                have k0 := k0.kept hbo
                generalize wr = wo at *
                go_upto_region 14 with fail
                refine wp_region_last 9 (fun ix => match ix with | 0 => .bool true | 1 => .bool true | 2 => .agg #[.int .i64 p.a, .int .i64 p.b, .int .i64 p.c, .int .i64 p.d] | 3 => .slice (some ⟨bb, off, none⟩) m c3 | 4 => .int .i64 (i : Int) | 5 => .pointer (some ⟨bb, off + i * 3, none⟩) | 6 => .agg #[.int .i64 q.a, .int .i64 q.b, .int .i64 q.c] | 7 => .bool bq | _ => .bool bq) (by kernel_rfl) (by kernel_rfl) rfl (by kernel_rfl) ?_ ?_
                · rintro ix hx f ww hS hd
                  have ka := k0.kept hS
                  have a0_ := ka.cell (i := 0) rfl
                  have a1_ := ka.cell (i := 1) rfl
                  have a2_ := ka.cell (i := 2) rfl
                  have a3_ := ka.cell (i := 3) rfl
                  have g0_ := (hS.cell (p := ⟨bb, off + i * 3, none⟩) hgb).trans g0
                  have g1_ := (hS.cell (p := ⟨bb, off + i * 3 + 1, none⟩) hgb).trans g1
                  have g2_ := (hS.cell (p := ⟨bb, off + i * 3 + 2, none⟩) hgb).trans g2
                  rcases ix with _ | _ | _ | _ | _ | _ | _ | _ | _ | ix
                  · refine wpOp_list rfl ?_
                    simp only [List.take_succ_cons, List.take_zero, tmOf, putAll, List.map_cons, List.map_nil, List.setIfInBounds_toArray, List.set_cons_zero, List.set_cons_succ]
                    go_wp2
                    simp [upd, Below.refl]
                  · have g0 : f 0 = .bool true := hd 0 (by kernel_rfl) (by decide)
                    refine wpOp_list rfl ?_
                    simp only [List.take_succ_cons, List.take_zero, tmOf, putAll, List.map_cons, List.map_nil, List.setIfInBounds_toArray, List.set_cons_zero, List.set_cons_succ]
                    go_wp2
                    simp [upd, g0, Below.refl]
                  · have g1 : f 1 = .bool true := hd 1 (by kernel_rfl) (by decide)
                    simp only [List.take_succ_cons, List.take_zero, tmOf, putAll, List.map_cons, List.map_nil, List.setIfInBounds_toArray, List.set_cons_zero, List.set_cons_succ]
                    refine wpOp_on rfl (wanted_of (b := true) rfl rfl rfl (congrArg some g1)) ?_
                    go_wp2
                    simp [upd, g1, Below.refl]
                  · have g1 : f 1 = .bool true := hd 1 (by kernel_rfl) (by decide)
                    simp only [List.take_succ_cons, List.take_zero, tmOf, putAll, List.map_cons, List.map_nil, List.setIfInBounds_toArray, List.set_cons_zero, List.set_cons_succ]
                    refine wpOp_on rfl (wanted_of (b := true) rfl rfl rfl (congrArg some g1)) ?_
                    go_wp2
                    simp [upd, g1, Below.refl]
                  · have g1 : f 1 = .bool true := hd 1 (by kernel_rfl) (by decide)
                    simp only [List.take_succ_cons, List.take_zero, tmOf, putAll, List.map_cons, List.map_nil, List.setIfInBounds_toArray, List.set_cons_zero, List.set_cons_succ]
                    refine wpOp_on rfl (wanted_of (b := true) rfl rfl rfl (congrArg some g1)) ?_
                    go_wp2
                    simp [upd, g1, Below.refl]
                  · have g3 : f 3 = .slice (some ⟨bb, off, none⟩) m c3 := hd 3 (by kernel_rfl) (by decide)
                    have g4 : f 4 = .int .i64 (i : Int) := hd 4 (by kernel_rfl) (by decide)
                    have g1 : f 1 = .bool true := hd 1 (by kernel_rfl) (by decide)
                    simp only [List.take_succ_cons, List.take_zero, tmOf, putAll, List.map_cons, List.map_nil, List.setIfInBounds_toArray, List.set_cons_zero, List.set_cons_succ]
                    refine wpOp_on rfl (wanted_of (b := true) rfl rfl rfl (congrArg some g1)) ?_
                    go_wp2
                    simp [upd, g3, g4, g1, Below.refl]
                  · have g5 : f 5 = .pointer (some ⟨bb, off + i * 3, none⟩) := hd 5 (by kernel_rfl) (by decide)
                    have g1 : f 1 = .bool true := hd 1 (by kernel_rfl) (by decide)
                    simp only [List.take_succ_cons, List.take_zero, tmOf, putAll, List.map_cons, List.map_nil, List.setIfInBounds_toArray, List.set_cons_zero, List.set_cons_succ]
                    refine wpOp_on rfl (wanted_of (b := true) rfl rfl rfl (congrArg some g1)) ?_
                    go_wp2
                    simp [upd, g5, g1, Below.refl]
                  · have g2 : f 2 = .agg #[.int .i64 p.a, .int .i64 p.b, .int .i64 p.c, .int .i64 p.d] := hd 2 (by kernel_rfl) (by decide)
                    have g6 : f 6 = .agg #[.int .i64 q.a, .int .i64 q.b, .int .i64 q.c] := hd 6 (by kernel_rfl) (by decide)
                    have g1 : f 1 = .bool true := hd 1 (by kernel_rfl) (by decide)
                    simp only [List.take_succ_cons, List.take_zero, tmOf, putAll, List.map_cons, List.map_nil, List.setIfInBounds_toArray, List.set_cons_zero, List.set_cons_succ]
                    refine wpOp_on rfl (wanted_of (b := true) rfl rfl rfl (congrArg some g1)) ?_
                    go_wp2_with fail
                    refine (HQ.out _).mono ?_
                    rintro e' wf ⟨rfl, hbf⟩
                    go_wp2_with fail
                    simp [upd, g2, g6, g1, hbf]
                  · have g1 : f 1 = .bool true := hd 1 (by kernel_rfl) (by decide)
                    have g7 : f 7 = .bool bq := hd 7 (by kernel_rfl) (by decide)
                    refine wpOp_list rfl ?_
                    simp only [List.take_succ_cons, List.take_zero, tmOf, putAll, List.map_cons, List.map_nil, List.setIfInBounds_toArray, List.set_cons_zero, List.set_cons_succ]
                    go_wp2
                    simp [upd, g1, g7, Below.refl]
                  · omega
                · rintro f' ww hS hd
                  have gl : f' 8 = .bool bq := hd 8 (by decide)
                  have hbo := hbo.trans (hS.mono hbo.size)
                  refine wpOp_list rfl ?_
                  simp only [List.take_succ_cons, List.take_zero, tmOf, putAll, List.map_cons, List.map_nil, List.setIfInBounds_toArray, List.set_cons_zero, List.set_cons_succ]
                  go_wp2
                  try simp only [Exit.inBlock, Exit.then]
                  go_wp2_with fail
                  go_roundg (m - (i + 1))
                  case measure => rw [HGI.out]; omega
                  case rel => exact ⟨i + 1, by omega, rfl, by go_num, by rw [HW.out]; try exact gl, hbo⟩
            · obtain rfl : i = m := by omega
              have hRe := HWN.out
              rw [hRe]
              cases R with
              | true =>
                go_wp2_with fail
                go_meet
                case rel => exact ⟨by rw [HER.out]; rfl, hbo⟩
              | false =>
                go_wp2_with fail
                go_meet
                case rel => exact ⟨by rw [HER.out]; rfl, hbo⟩
      case rest =>
      obtain ⟨rfl, hbx⟩ := hcut
      have k0 := k0.kept hbx
      have k1 := k1.kept hbx
      have HR := Lib.hid (HR.out.below hbx)
      have hb := hb.trans (hbx.mono hb.size)
      clear hbx
      clear H1 HWN hbu
      generalize wc = wy at *
      go_upto_region 17 with fail
      go_cut [90] from 29 to 110 (fun v90 wx => v90 = .bool false ∧ Below wy.heap.size wy wx)
      case first =>
        have a0 := k0.cell (i := 0) rfl
        have a1 := k0.cell (i := 1) rfl
        have a2 := k0.cell (i := 2) rfl
        have a3 := k0.cell (i := 3) rfl
        have b0 := k1.cell (i := 0) rfl
        have b1 := k1.cell (i := 1) rfl
        have b2 := k1.cell (i := 2) rfl
        rcases HC.out with ⟨rfl, rfl, rfl⟩ | ⟨rfl, rfl, rfl, rfl⟩ | ⟨rfl, rfl, rfl, hq1, hq2, hq3, hq4, hq5⟩
        · go_wp2_with fail
          go_meet
          case rel => exact ⟨rfl, Below.refl _ _⟩
        · go_wp2_with fail
          go_meet
          case rel => exact ⟨rfl, Below.refl _ _⟩
        · have hcr := clockR_any p u p3 m c3 xs wy HX.out.2.2.1 (by omega) HR.out.rd hq1 hq2 hq3 hq4
          rw [← hq5] at hcr
          have HCR := Lib.hid hcr
          clear hcr hq1 hq2 hq3 hq4 hq5
          go_wp2_with fail
          refine HCR.out.mono ?_
          rintro e' w1 ⟨rfl, hw1⟩
          go_wp2_with fail
          go_meet
          case rel => exact ⟨by simp, hw1⟩
      case rest =>
      obtain ⟨rfl, hbx⟩ := hcut
      have k0 := k0.kept hbx
      have k1 := k1.kept hbx
      have HR := Lib.hid (HR.out.below hbx)
      have hb := hb.trans (hbx.mono hb.size)
      clear hbx
      clear HC
      generalize wc = wz at *
      have a0 := k0.cell (i := 0) rfl
      have a1 := k0.cell (i := 1) rfl
      have a2 := k0.cell (i := 2) rfl
      have a3 := k0.cell (i := 3) rfl
      go_wp2_with fail
      refine (HTP.out _).mono ?_
      rintro e' wt ⟨rfl, ht⟩
      clear a0 a1 a2 a3 HTP
      have k0 := k0.kept ht
      have k1 := k1.kept ht
      have HR := Lib.hid (HR.out.below ht)
      have hb := hb.trans (ht.mono hb.size)
      clear ht
      have a0 := k0.cell (i := 0) rfl
      have a1 := k0.cell (i := 1) rfl
      have a2 := k0.cell (i := 2) rfl
      have a3 := k0.cell (i := 3) rfl
      have d0 := k0.frozen 0
      have d1 := k0.frozen 1
      have d2 := k0.frozen 2
      have d3 := k0.frozen 3
      obtain ⟨ws, hws⟩ : ∃ w', ((((wt.setCell ⟨w.heap.size, 0, none⟩ (.int .i64 pp.a)).setCell ⟨w.heap.size, 1, none⟩ (.int .i64 pp.b)).setCell ⟨w.heap.size, 2, none⟩ (.int .i64 pp.c)).setCell ⟨w.heap.size, 3, none⟩ (.int .i64 pp.d)) = w' := ⟨_, rfl⟩
      have hb : Below w.heap.size w ws := by rw [← hws]; exact ((((hb.setCell (p := ⟨w.heap.size, 0, none⟩) (by simp only; omega) _).setCell (p := ⟨w.heap.size, 1, none⟩) (by simp only; omega) _).setCell (p := ⟨w.heap.size, 2, none⟩) (by simp only; omega) _).setCell (p := ⟨w.heap.size, 3, none⟩) (by simp only; omega) _)
      have HR : Hid (RdY G0 ws p3 xs) := by rw [← hws]; exact ((((HR.out.other (w.heap.size) 0 _ (by omega)).other (w.heap.size) 1 _ (by omega)).other (w.heap.size) 2 _ (by omega)).other (w.heap.size) 3 _ (by omega))
      have k0 : Blk ws (w.heap.size) #[.int .i64 pp.a, .int .i64 pp.b, .int .i64 pp.c, .int .i64 pp.d] 23 := by rw [← hws]; exact Blk.put4 k0 _ _ _ _
      have k1 : Blk ws (w.heap.size + 1) #[.int .i64 u.a, .int .i64 u.b, .int .i64 u.c] 24 := by rw [← hws]; exact ((((k1.other (C := w.heap.size) 0 _ (by omega)).other (C := w.heap.size) 1 _ (by omega)).other (C := w.heap.size) 2 _ (by omega)).other (C := w.heap.size) 3 _ (by omega))
      have x0 := k0.cell (i := 0) rfl
      have x1 := k0.cell (i := 1) rfl
      have x2 := k0.cell (i := 2) rfl
      have x3 := k0.cell (i := 3) rfl
      have y0 := k1.cell (i := 0) rfl
      have y1 := k1.cell (i := 1) rfl
      have y2 := k1.cell (i := 2) rfl
      go_wp2_with fail
      refine (HWU.out _).mono ?_
      rintro e' wv ⟨rfl, hv⟩
      clear a0 a1 a2 a3 d0 d1 d2 d3 hws x0 x1 x2 x3 y0 y1 y2 HWU
      have k0 := k0.kept hv
      have k1 := k1.kept hv
      have HR := Lib.hid (HR.out.below hv)
      have hb := hb.trans (hv.mono hb.size)
      clear hv
      have b0 := k1.cell (i := 0) rfl
      have b1 := k1.cell (i := 1) rfl
      have b2 := k1.cell (i := 2) rfl
      have d0 := k1.frozen 0
      have d1 := k1.frozen 1
      have d2 := k1.frozen 2
      obtain ⟨ws, hws⟩ : ∃ w', (((wv.setCell ⟨w.heap.size + 1, 0, none⟩ (.int .i64 uu.a)).setCell ⟨w.heap.size + 1, 1, none⟩ (.int .i64 uu.b)).setCell ⟨w.heap.size + 1, 2, none⟩ (.int .i64 uu.c)) = w' := ⟨_, rfl⟩
      have hb : Below w.heap.size w ws := by rw [← hws]; exact (((hb.setCell (p := ⟨w.heap.size + 1, 0, none⟩) (by simp only; omega) _).setCell (p := ⟨w.heap.size + 1, 1, none⟩) (by simp only; omega) _).setCell (p := ⟨w.heap.size + 1, 2, none⟩) (by simp only; omega) _)
      have HR : Hid (RdY G0 ws p3 xs) := by rw [← hws]; exact (((HR.out.other (w.heap.size + 1) 0 _ (by omega)).other (w.heap.size + 1) 1 _ (by omega)).other (w.heap.size + 1) 2 _ (by omega))
      have k1 : Blk ws (w.heap.size + 1) #[.int .i64 uu.a, .int .i64 uu.b, .int .i64 uu.c] 24 := by rw [← hws]; exact Blk.put3 k1 _ _ _
      have k0 : Blk ws (w.heap.size) #[.int .i64 pp.a, .int .i64 pp.b, .int .i64 pp.c, .int .i64 pp.d] 23 := by rw [← hws]; exact (((k0.other (C := w.heap.size + 1) 0 _ (by omega)).other (C := w.heap.size + 1) 1 _ (by omega)).other (C := w.heap.size + 1) 2 _ (by omega))
      go_wp2_with fail
      go_loopg [14] m (fun gk v14 wr => ∃ (i : Nat) (ys : List V3), i ≤ m ∧ gk = m - i ∧ v14 = .int .i64 (i : Int) ∧ Hid (ys.length = m ∧ ∀ q ∈ ys, In3 q) ∧ Blk wr (w.heap.size) #[.int .i64 pp.a, .int .i64 pp.b, .int .i64 pp.c, .int .i64 pp.d] 23 ∧ Blk wr (w.heap.size + 1) #[.int .i64 uu.a, .int .i64 uu.b, .int .i64 uu.c] 24 ∧ Hid (RdY G0 wr p3 ys) ∧ Below w.heap.size w wr)
      case atStart => exact ⟨0, xs, Nat.zero_le _, rfl, rfl, ⟨HX.out.2.2.1, HX.out.2.2.2.2⟩, k0, k1, HR.out, hb⟩
      case round =>
        clear k0 k1 HR hb b0 b1 b2 d0 d1 d2 hws
        obtain ⟨i, ys, hi, hgi, rfl, HY, k0, k1, HR, hb⟩ := hrel
        have HGI := Lib.hid hgi
        clear hgi
        by_cases him : i < m
        · have hii : (i : Int) < (m : Int) := by omega
          have hil : i < ys.length := by rw [HY.out.1]; exact him
          obtain ⟨g, rfl, hg, hrow⟩ : ∃ g, p3 = some ⟨g, 0, none⟩ ∧ G0 ≤ g ∧ RowD wr g ys := by
            rcases HR.out with h | h
            · rw [h] at hil; simp at hil
            · exact h
          obtain ⟨q, hq⟩ : ∃ q, ys[i]? = some q := ⟨_, List.getElem?_eq_getElem hil⟩
          have hqi : In3 q := HY.out.2 q (List.mem_of_getElem? hq)
          have HT := Lib.hid (fun W => way_any pp q W (nrm_far HPP.out.1) hqi)
          have hti : In3 (wayV (nrm pp) q) := far_in (wayV_far (nrm_far HPP.out.1)) (by decide)
          obtain ⟨T, hT⟩ : ∃ T, wayV (nrm pp) q = T := ⟨_, rfl⟩
          rw [hT] at HT hti
          have HTI := Lib.hid hti
          have HQ := Lib.hid hq
          have HRW := Lib.hid hrow
          have HG := Lib.hid hg
          have HIL := Lib.hid hil
          clear hq hqi hrow hil hti hT HR
          go_upto_region 24 with fail
          refine wp_region_pure 9 (fun ix => match ix with | 0 => .slice (some ⟨g, 0, none⟩) m c3 | 1 => .int .i64 (i : Int) | 2 => .agg #[.int .i64 pp.a, .int .i64 pp.b, .int .i64 pp.c, .int .i64 pp.d] | 3 => .slice (some ⟨g, 0, none⟩) m c3 | 4 => .int .i64 (i : Int) | 5 => .pointer (some ⟨g, i * 3, none⟩) | 6 => .agg #[.int .i64 q.a, .int .i64 q.b, .int .i64 q.c] | 7 => .agg #[.int .i64 T.a, .int .i64 T.b, .int .i64 T.c] | _ => .pointer (some ⟨g, i * 3, none⟩)) (by kernel_rfl) (by kernel_rfl) (by kernel_rfl) (by decide) ?_ ?_
          · rintro ix hx f ww hS hd
            have ka := k0.kept hS
            have a0_ := ka.cell (i := 0) rfl
            have a1_ := ka.cell (i := 1) rfl
            have a2_ := ka.cell (i := 2) rfl
            have a3_ := ka.cell (i := 3) rfl
            obtain ⟨⟨d0_, d1_, d2_⟩, f0_, f1_, f2_⟩ := (HRW.out.below hS).2 i q HQ.out
            rcases ix with _ | _ | _ | _ | _ | _ | _ | _ | _ | ix
            · refine wpOp_list rfl ?_
              simp only [tmOf, putAll, List.map_cons, List.map_nil, List.setIfInBounds_toArray, List.set_cons_zero, List.set_cons_succ]
              go_wp2
              simp [upd, Below.refl]
            · refine wpOp_list rfl ?_
              simp only [tmOf, putAll, List.map_cons, List.map_nil, List.setIfInBounds_toArray, List.set_cons_zero, List.set_cons_succ]
              go_wp2
              simp [upd, Below.refl]
            · refine wpOp_list rfl ?_
              simp only [tmOf, putAll, List.map_cons, List.map_nil, List.setIfInBounds_toArray, List.set_cons_zero, List.set_cons_succ]
              go_wp2
              simp [upd, Below.refl]
            · refine wpOp_list rfl ?_
              simp only [tmOf, putAll, List.map_cons, List.map_nil, List.setIfInBounds_toArray, List.set_cons_zero, List.set_cons_succ]
              go_wp2
              simp [upd, Below.refl]
            · refine wpOp_list rfl ?_
              simp only [tmOf, putAll, List.map_cons, List.map_nil, List.setIfInBounds_toArray, List.set_cons_zero, List.set_cons_succ]
              go_wp2
              simp [upd, Below.refl]
            · have g3 : f 3 = .slice (some ⟨g, 0, none⟩) m c3 := hd 3 (by kernel_rfl)
              have g4 : f 4 = .int .i64 (i : Int) := hd 4 (by kernel_rfl)
              refine wpOp_list rfl ?_
              simp only [tmOf, putAll, List.map_cons, List.map_nil, List.setIfInBounds_toArray, List.set_cons_zero, List.set_cons_succ]
              go_wp2
              simp [upd, g3, g4, Below.refl]
            · have g5 : f 5 = .pointer (some ⟨g, i * 3, none⟩) := hd 5 (by kernel_rfl)
              refine wpOp_list rfl ?_
              simp only [tmOf, putAll, List.map_cons, List.map_nil, List.setIfInBounds_toArray, List.set_cons_zero, List.set_cons_succ]
              go_wp2
              simp [upd, g5, Below.refl]
            · have g2 : f 2 = .agg #[.int .i64 pp.a, .int .i64 pp.b, .int .i64 pp.c, .int .i64 pp.d] := hd 2 (by kernel_rfl)
              have g6 : f 6 = .agg #[.int .i64 q.a, .int .i64 q.b, .int .i64 q.c] := hd 6 (by kernel_rfl)
              refine wpOp_list rfl ?_
              simp only [tmOf, putAll, List.map_cons, List.map_nil, List.setIfInBounds_toArray, List.set_cons_zero, List.set_cons_succ]
              go_wp2_with fail
              refine (HT.out _).mono ?_
              rintro e' wf ⟨rfl, hbf⟩
              go_wp2_with fail
              simp [upd, g2, g6, hbf]
            · have g0 : f 0 = .slice (some ⟨g, 0, none⟩) m c3 := hd 0 (by kernel_rfl)
              have g1 : f 1 = .int .i64 (i : Int) := hd 1 (by kernel_rfl)
              refine wpOp_list rfl ?_
              simp only [tmOf, putAll, List.map_cons, List.map_nil, List.setIfInBounds_toArray, List.set_cons_zero, List.set_cons_succ]
              go_wp2
              simp [upd, g0, g1, Below.refl]
            · omega
          · rintro f' ww hS hd
            have k0 := k0.kept hS
            have k1 := k1.kept hS
            have hb := hb.trans (hS.mono hb.size)
            have hrow := HRW.out.below hS
            obtain ⟨⟨d0, d1, d2⟩, f0, f1, f2⟩ := hrow.2 i q HQ.out
            have gT : f' 7 = .agg #[.int .i64 T.a, .int .i64 T.b, .int .i64 T.c] := hd 7 (by decide)
            have gA : f' 8 = .pointer (some ⟨g, i * 3, none⟩) := hd 8 (by decide)
            have HR5 := Lib.hid (hrow.set HIL.out T)
            have HB5 := Lib.hid (((hb.setCell (p := ⟨g, i * 3, none⟩) (by simp only; omega) (.int .i64 T.a)).setCell (p := ⟨g, i * 3 + 1, none⟩) (by simp only; omega) (.int .i64 T.b)).setCell (p := ⟨g, i * 3 + 2, none⟩) (by simp only; omega) (.int .i64 T.c))
            have K0 := Lib.hid (((k0.other (C := g) (i * 3) (.int .i64 T.a) (by omega)).other (C := g) (i * 3 + 1) (.int .i64 T.b) (by omega)).other (C := g) (i * 3 + 2) (.int .i64 T.c) (by omega))
            have K1 := Lib.hid (((k1.other (C := g) (i * 3) (.int .i64 T.a) (by omega)).other (C := g) (i * 3 + 1) (.int .i64 T.b) (by omega)).other (C := g) (i * 3 + 2) (.int .i64 T.c) (by omega))
            clear hrow k0 k1 hb
            simp only [seqW, tmOf, putAll, List.map_cons, List.map_nil, List.setIfInBounds_toArray, List.set_cons_zero, List.set_cons_succ, List.length_cons, List.length_nil]
            refine wpOp_list rfl ?_
            go_wp2
            try simp only [Exit.inBlock, Exit.then]
            go_wp2_with fail
            go_roundg (m - (i + 1))
            case measure => rw [HGI.out]; omega
            case rel =>
              refine ⟨i + 1, ys.set i T, by omega, rfl, by go_num, ⟨by rw [List.length_set]; exact HY.out.1, fun y hy => ?_⟩, K0.out, K1.out, .inr ⟨g, rfl, HG.out, HR5.out⟩, HB5.out⟩
              rcases List.mem_or_eq_of_mem_set hy with h | h
              · exact HY.out.2 y h
              · rw [h]; exact HTI.out
        · have hii : ¬ (i : Int) < (m : Int) := by omega
          go_wp2_with fail
          go_roundg (2 - (j + 1))
          case measure => rw [HGK.out]; omega
          case rel => exact ⟨j + 1, pp, uu, ys, by omega, rfl, by go_num, ⟨right_in HPP.out.1, HPP.out.2, HY.out.1, HX.out.2.2.2.1, HY.out.2⟩, k0, k1, HR, hb⟩
    · have hji : ¬ (j : Int) < 2 := by omega
      clear HR HX k0 k1
      obtain ⟨wm, hmk, hrow0, hbm⟩ := mkVecs wr
      have HRW0 := Lib.hid hrow0
      have HBM := Lib.hid (hb.trans (hbm.mono hb.size))
      have HGE := Lib.hid hb.size
      obtain ⟨G, hG⟩ : ∃ G, wr.heap.size = G := ⟨_, rfl⟩
      rw [hG] at hmk HRW0 HGE
      clear hrow0 hbm hb hG
      go_wp2_with fail
      go_loopg [16] 1001 (fun gk v16 wx => ∃ (i : Nat) (ys : List V3), i ≤ 1001 ∧ gk = 1001 - i ∧ v16 = .int .i64 (i : Int) ∧ Hid (ys.length = 1001 ∧ ∀ k, k < i → ys[k]? = some ⟨1, 0, 0⟩) ∧ Hid (RowD wx G ys) ∧ Hid (Below w.heap.size w wx))
      case atStart => exact ⟨0, _, by decide, rfl, rfl, ⟨List.length_replicate, fun k hk => absurd hk (by omega)⟩, HRW0.out, HBM.out⟩
      case round =>
        obtain ⟨i, ys, hi, hgk4, rfl, HY, HRY, HBY⟩ := hrel
        have HGK4 := Lib.hid hgk4
        clear hgk4
        by_cases hil : i < 1001
        · have hii : (i : Int) < 1001 := by omega
          have hiy : i < ys.length := by rw [HY.out.1]; exact hil
          obtain ⟨q, hq⟩ : ∃ q, ys[i]? = some q := ⟨_, List.getElem?_eq_getElem hiy⟩
          obtain ⟨⟨c0, c1, c2⟩, f0, f1, f2⟩ := HRY.out.2 i q hq
          have HR5 := Lib.hid (HRY.out.set hiy ⟨1, 0, 0⟩)
          have HB5 := Lib.hid (((HBY.out.setCell (p := ⟨G, i * 3, none⟩) HGE.out (.int .i64 1)).setCell (p := ⟨G, i * 3 + 1, none⟩) HGE.out (.int .i64 0)).setCell (p := ⟨G, i * 3 + 2, none⟩) HGE.out (.int .i64 0))
          have HIY := Lib.hid hiy
          clear hq hiy HBY
          go_wp2_with fail
          go_roundg (1001 - (i + 1))
          case measure => rw [HGK4.out]; omega
          case rel =>
            refine ⟨i + 1, ys.set i ⟨1, 0, 0⟩, by omega, rfl, by go_num, ⟨by rw [List.length_set]; exact HY.out.1, fun k hk => ?_⟩, HR5.out, HB5.out⟩
            by_cases e : k = i
            · subst e; rw [List.getElem?_set_self HIY.out]
            · rw [List.getElem?_set_ne (Ne.symm e)]; exact HY.out.2 k (by omega)
        · have hii : ¬ (i : Int) < 1001 := by omega
          obtain rfl : i = 1001 := by omega
          obtain ⟨hm1, hm2, hm3⟩ := ways_many HY.out.1 HY.out.2
          have htl : (ys.take 1000).length = 1000 := by rw [List.length_take, HY.out.1]; rfl
          have hinF : InV ⟨0, 0, 1, 0⟩ := by unfold InV InI64; decide
          have hc1 := fun W (hW : Below wr.heap.size wr W) => clockwise_any ⟨0, 0, 1, 0⟩ ⟨0, 1, 0⟩ (some ⟨G, 0, none⟩) 1001 1001 ys W hinF HY.out.1 (by decide) (HRY.out.rdD.below hW)
          have hs1 : clkS ⟨0, 0, 1, 0⟩ ⟨0, 1, 0⟩ ys = 0 := by unfold clkS; rw [hm1, if_neg (by decide)]
          rw [hm1, hs1] at hc1
          have hc2 := fun W (hW : Below wr.heap.size wr W) => clockwise_any ⟨0, 0, 1, 0⟩ ⟨1, 0, 0⟩ (some ⟨G, 0, none⟩) 1000 1000 (ys.take 1000) W hinF htl (by decide) ((HRY.out.take 1000).rdD.below hW)
          rw [hm2, hm3] at hc2
          have hb := HBY.out
          have HC1 := Lib.hid hc1
          have hc2h := Lib.hid hc2
          clear hc1 hc2 hm1 hm2 hm3 hs1 htl hinF HBY HRY HY
          obtain ⟨F, hF⟩ : ∃ F, wr.heap.size = F := ⟨_, rfl⟩
          obtain ⟨wf0, hwf0⟩ : ∃ w', wr.alloc (.cells #[.int .i64 0, .int .i64 0, .int .i64 0, .int .i64 0] 23) = w' := ⟨_, rfl⟩
          have kZ : Blk wf0 F #[.int .i64 0, .int .i64 0, .int .i64 0, .int .i64 0] 23 := by rw [← hwf0, ← hF]; exact Blk.new _ _ _
          have hk : Below wr.heap.size wr wf0 := by rw [← hwf0]; exact (Below.refl _ _).alloc (Nat.le_refl _) _
          rw [hF] at hk
          obtain ⟨ws, hws⟩ : ∃ w', ((((wf0.setCell ⟨F, 0, none⟩ (.int .i64 0)).setCell ⟨F, 1, none⟩ (.int .i64 0)).setCell ⟨F, 2, none⟩ (.int .i64 1)).setCell ⟨F, 3, none⟩ (.int .i64 0)) = w' := ⟨_, rfl⟩
          have hjj : Below F wr ws := by rw [← hws]; exact (((hk.setCell (p := ⟨F, 0, none⟩) (Nat.le_refl _) _).setCell (p := ⟨F, 1, none⟩) (Nat.le_refl _) _).setCell (p := ⟨F, 2, none⟩) (Nat.le_refl _) _).setCell (p := ⟨F, 3, none⟩) (Nat.le_refl _) _
          rw [← hF] at hjj
          have kF : Blk ws F #[.int .i64 0, .int .i64 0, .int .i64 1, .int .i64 0] 23 := by rw [← hws]; exact Blk.put4 kZ _ _ _ _
          have z0 := kZ.cell (i := 0) rfl
          have z1 := kZ.cell (i := 1) rfl
          have z2 := kZ.cell (i := 2) rfl
          have z3 := kZ.cell (i := 3) rfl
          have q0 := kZ.frozen 0
          have q1 := kZ.frozen 1
          have q2 := kZ.frozen 2
          have q3 := kZ.frozen 3
          have hb := hb.trans (hjj.mono hb.size)
          have HC1' := Lib.hid (HC1.out ws hjj)
          have hc2 : ∀ W, Below ws.heap.size ws W → _ := fun W hW => hc2h.out W (hjj.trans (hW.mono hjj.size))
          have HC2 := Lib.hid hc2
          clear hc2 hc2h hjj hk HC1
          have x0 := kF.cell (i := 0) rfl
          have x1 := kF.cell (i := 1) rfl
          have x2 := kF.cell (i := 2) rfl
          have x3 := kF.cell (i := 3) rfl
          go_wp2_with fail
          refine HC1'.out.mono ?_
          rintro e' wa ⟨rfl, ha⟩
          clear z0 z1 z2 z3 q0 q1 q2 q3 x0 x1 x2 x3 hws hwf0 kZ hF HC1'
          have kF := kF.kept ha
          have hb := hb.trans (ha.mono hb.size)
          have hc2 : ∀ W, Below wa.heap.size wa W → _ := fun W hW => HC2.out W (ha.trans (hW.mono ha.size))
          have HC2 := Lib.hid hc2
          clear hc2 ha
          go_upto_region 32 with fail
          go_cut [20, 21] from 122 to 150 (fun v20 v21 wx => v20 = .int .i64 0 ∧ v21 = .int .i64 0 ∧ Below wa.heap.size wa wx)
          case first =>
            refine wp_region_pure' (fun ix => match ix with | 0 => .agg #[.int .i64 0, .int .i64 0, .int .i64 1, .int .i64 0] | 1 => .agg #[.int .i64 1, .int .i64 0, .int .i64 0] | 2 => .slice (some ⟨G, 0, none⟩) 1001 1001 | 3 => .slice (some ⟨G, 0, none⟩) 1000 1000 | 4 => .tuple #[.int .i64 0, .int .i64 0] | 5 => .tuple #[.int .i64 0, .int .i64 0] | 6 => .int .i64 0 | 7 => .int .i64 0 | 8 => .int .i64 0 | _ => .int .i64 0) (by kernel_rfl) (by kernel_rfl) ?_ ?_
            · rintro ix hx f ww hS hd
              have kf := kF.kept hS
              have a0_ := kf.cell (i := 0) rfl
              have a1_ := kf.cell (i := 1) rfl
              have a2_ := kf.cell (i := 2) rfl
              have a3_ := kf.cell (i := 3) rfl
              rcases ix with _ | _ | _ | _ | _ | _ | _ | _ | _ | _ | ix
              · refine wpOp_list rfl ?_
                simp only [tmOf, putAll, List.map_cons, List.map_nil, List.setIfInBounds_toArray, List.set_cons_zero, List.set_cons_succ]
                go_wp2
                simp [upd, Below.refl]
              · refine wpOp_list rfl ?_
                simp only [tmOf, putAll, List.map_cons, List.map_nil, List.setIfInBounds_toArray, List.set_cons_zero, List.set_cons_succ]
                go_wp2
                simp [upd, Below.refl]
              · refine wpOp_list rfl ?_
                simp only [tmOf, putAll, List.map_cons, List.map_nil, List.setIfInBounds_toArray, List.set_cons_zero, List.set_cons_succ]
                go_wp2
                simp [upd, Below.refl]
              · have g2 : f 2 = .slice (some ⟨G, 0, none⟩) 1001 1001 := hd 2 (by kernel_rfl)
                refine wpOp_list rfl ?_
                simp only [tmOf, putAll, List.map_cons, List.map_nil, List.setIfInBounds_toArray, List.set_cons_zero, List.set_cons_succ]
                go_wp2
                simp [upd, g2, Below.refl]
              · have g0 : f 0 = .agg #[.int .i64 0, .int .i64 0, .int .i64 1, .int .i64 0] := hd 0 (by kernel_rfl)
                have g1 : f 1 = .agg #[.int .i64 1, .int .i64 0, .int .i64 0] := hd 1 (by kernel_rfl)
                have g3 : f 3 = .slice (some ⟨G, 0, none⟩) 1000 1000 := hd 3 (by kernel_rfl)
                refine wpOp_list rfl ?_
                simp only [tmOf, putAll, List.map_cons, List.map_nil, List.setIfInBounds_toArray, List.set_cons_zero, List.set_cons_succ]
                go_wp2_with fail
                refine (HC2.out _ hS).mono ?_
                rintro e' wf ⟨rfl, hbf⟩
                go_wp2_with fail
                simp [upd, g0, g1, g3, hbf]
              · have g4 : f 4 = .tuple #[.int .i64 0, .int .i64 0] := hd 4 (by kernel_rfl)
                refine wpOp_list rfl ?_
                simp only [tmOf, putAll, List.map_cons, List.map_nil, List.setIfInBounds_toArray, List.set_cons_zero, List.set_cons_succ]
                go_wp2
                simp [upd, g4, Below.refl]
              · have g5 : f 5 = .tuple #[.int .i64 0, .int .i64 0] := hd 5 (by kernel_rfl)
                refine wpOp_list rfl ?_
                simp only [tmOf, putAll, List.map_cons, List.map_nil, List.setIfInBounds_toArray, List.set_cons_zero, List.set_cons_succ]
                go_wp2
                simp [upd, g5, Below.refl]
              · have g5 : f 5 = .tuple #[.int .i64 0, .int .i64 0] := hd 5 (by kernel_rfl)
                refine wpOp_list rfl ?_
                simp only [tmOf, putAll, List.map_cons, List.map_nil, List.setIfInBounds_toArray, List.set_cons_zero, List.set_cons_succ]
                go_wp2
                simp [upd, g5, Below.refl]
              · have g6 : f 6 = .int .i64 0 := hd 6 (by kernel_rfl)
                refine wpOp_list rfl ?_
                simp only [tmOf, putAll, List.map_cons, List.map_nil, List.setIfInBounds_toArray, List.set_cons_zero, List.set_cons_succ]
                go_wp2
                simp [upd, g6, Below.refl]
              · have g7 : f 7 = .int .i64 0 := hd 7 (by kernel_rfl)
                refine wpOp_list rfl ?_
                simp only [tmOf, putAll, List.map_cons, List.map_nil, List.setIfInBounds_toArray, List.set_cons_zero, List.set_cons_succ]
                go_wp2
                simp [upd, g7, Below.refl]
              · simp only [List.length_cons, List.length_nil] at hx; omega
            · rintro f' ww hS hd
              have g20 : f' 8 = .int .i64 0 := hd 8 (by decide)
              have g21 : f' 9 = .int .i64 0 := hd 9 (by decide)
              simp only [tmOf, putAll, List.map_cons, List.map_nil, List.setIfInBounds_toArray, List.set_cons_zero, List.set_cons_succ]
              refine ‹∀ (a' : Act) (w' : World), Met _ a' w' → _› _ _ ?_
              go_meet
              case rel => exact ⟨g20, g21, hS⟩
          case rest =>
          obtain ⟨rfl, rfl, hbx⟩ := hcut
          have hb := hb.trans (hbx.mono hb.size)
          clear hbx HC2 kF
          go_wp2_with fail
          refine (awake5_any _).mono ?_
          rintro e' wz ⟨rfl, hz⟩
          go_wp2_with fail
          go_ret
          exact ⟨rfl, hb.trans (hz.mono hb.size)⟩

theorem lineClockwise_walk5 (p : V4) (x y z : Int) (a : Option Addr) (n cap : Nat) (l : List V3) (w : World) (hp : InV p) (hx : InI64 x) (hy : InI64 y) (hz : InI64 z) (hl : l.length = n) (hn : n ≤ maxLen) (hcap : n ≤ cap) (hr : RdD w a l) (hi : ∀ q ∈ l, In3 q) :
    Calls Tryz.prog 7 #[.agg #[.int .i64 p.a, .int .i64 p.b, .int .i64 p.c, .int .i64 p.d], .agg #[.int .i64 x, .int .i64 y, .int .i64 z], .slice a n cap] w fun e w' => e = .returned (.bool true) ∧ Below w.heap.size w w' :=
  lineClockwise_walk p ⟨x, y, z⟩ a n cap l w hp ⟨hx, hy, hz⟩ hl hn hcap hr hi

end Go.Proofs.YtimkeblcdodfmaaGreat

namespace Go.Proofs.YtimkeblcdodfmaaGreat
open Go Go.ChangeShapes Go.WideShapes Go.ChangeAt Go.WideMaps Go.WideElems Go.RowKit Go.ChangeMaps Go.Deep

theorem three_of {H : Type} {enc : TypeId × Value → H} {W : World} {base : Nat} {t : TypeId} {sp : Nat → Bool} {fuel : Nat} {c0 c1 c2 : Value} {y : DataW H × List MemPlace} (ht : Tryz.prog.underlying t = some (.array 3 2)) (hf : DataW.trod enc Tryz.prog W base sp true fuel t [c0, c1, c2] = some y) :
    ∃ q : V3, c0 = .int .i64 q.a ∧ c1 = .int .i64 q.b ∧ c2 = .int .i64 q.c ∧ In3 q := by
  obtain ⟨z0, z1, z2, m, _, hy0, hy1, hy2⟩ := trod_array3 ht Tryz.cellsI64 hf
  obtain ⟨x0, e0, _, w0⟩ := DataW.trod_int Tryz.underlying2 hy0
  obtain ⟨x1, e1, _, w1⟩ := DataW.trod_int Tryz.underlying2 hy1
  obtain ⟨x2, e2, _, w2⟩ := DataW.trod_int Tryz.underlying2 hy2
  simp at e0 e1 e2
  exact ⟨⟨x0, x1, x2⟩, e0, e1, e2, inI64_wf w0, inI64_wf w1, inI64_wf w2⟩

theorem threes_open {H : Type} {enc : TypeId × Value → H} {W : World} {fuel : Nat} {a0 : Option Addr} {len cap : Nat} {t e : TypeId} {x : DataW H × List MemPlace} (ht : Tryz.prog.underlying t = some (.slice e)) (he : Tryz.prog.underlying e = some (.array 3 2)) (hce : Tryz.prog.cellsOf e = 3)
    (hf : DataW.trod enc Tryz.prog W 0 (fun _ => true) true fuel t [.slice a0 len cap] = some x) :
    ∃ l : List V3, l.length = len ∧ len ≤ maxLen ∧ len ≤ cap ∧ RdD W a0 l ∧ ∀ q ∈ l, In3 q := by
  rcases open_slice ht hf with ⟨hcs, _⟩ | ⟨a, len', cap', m, n, D, Pl, hcs, hb, hl, hm, hmm, _, hx⟩
  · simp at hcs
    obtain ⟨rfl, rfl, rfl⟩ := hcs
    exact ⟨[], rfl, Nat.zero_le _, Nat.le_refl _, fun i q h => by simp at h, fun q h => by cases h⟩
  · simp at hcs
    obtain ⟨rfl, rfl, rfl⟩ := hcs
    simp only [if_true] at hmm
    have hml : len ≤ m := by omega
    have each : ∀ r, r < len → ∃ q : V3, (∃ b off, a = ⟨b, off, none⟩ ∧ b < W.heap.size ∧ W.cell? ⟨b, off + r * 3, none⟩ = some (.int .i64 q.a) ∧ W.cell? ⟨b, off + r * 3 + 1, none⟩ = some (.int .i64 q.b) ∧ W.cell? ⟨b, off + r * 3 + 2, none⟩ = some (.int .i64 q.c)) ∧ In3 q := by
      intro r hr
      obtain ⟨cs', h1, h2⟩ := hx r (by omega)
      rw [hce] at h1
      obtain ⟨_, hlen, hcell⟩ := World.cells?_some h1
      match cs', hlen with
      | [c0, c1, c2], _ =>
        obtain ⟨q, rfl, rfl, rfl, hq⟩ := three_of he h2
        have e0 := hcell 0 (by decide)
        have e1 := hcell 1 (by decide)
        have e2 := hcell 2 (by decide)
        obtain ⟨b, off, spot⟩ := a
        have hspot : spot = none := by
          obtain ⟨cz, hz1, hz2⟩ := hx 0 (by omega)
          rw [hce] at hz1
          obtain ⟨_, hzl, hzc⟩ := World.cells?_some hz1
          have z0 := hzc 0 (by decide)
          match cz, hzl with
          | [d0, d1, d2], _ => simpa [Addr.add] using World.cell?_spot z0
        subst hspot
        simp only [add_plain] at e0 e1 e2
        exact ⟨q, ⟨b, off, rfl, World.block_lt_of_cell? _ _ (by rw [e0]; rfl), e0, e1, e2⟩, hq⟩
    haveI : Inhabited V3 := ⟨⟨0, 0, 0⟩⟩
    obtain ⟨y, hy⟩ := choose_lt each
    refine ⟨(List.range len).map y, by simp, by omega, hl, fun i q hi => ?_, fun q hq => ?_⟩
    · rw [List.getElem?_map, Option.map_eq_some_iff] at hi
      obtain ⟨r, hr, rfl⟩ := hi
      obtain ⟨hlt, he⟩ := List.getElem?_eq_some_iff.1 hr
      simp at hlt he
      subst he
      obtain ⟨⟨b, off, ha, h1, h2, h3⟩, _⟩ := hy i hlt
      exact ⟨b, off, by rw [ha], h1, h2, h3⟩
    · obtain ⟨r, hr, rfl⟩ := List.mem_map.1 hq
      exact (hy r (List.mem_range.1 hr)).2

end Go.Proofs.YtimkeblcdodfmaaGreat
