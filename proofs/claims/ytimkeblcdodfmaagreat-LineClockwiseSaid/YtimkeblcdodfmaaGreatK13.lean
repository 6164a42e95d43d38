/-
  The reference's quotients, digit by digit.
-/
import Derived.Test.YtimkeblcdodfmaaGreatK1
import Derived.Test.YtimkeblcdodfmaaGreatK2
import Derived.Test.YtimkeblcdodfmaaGreatK3
import Derived.Test.YtimkeblcdodfmaaGreatK10
import Derived.Test.YtimkeblcdodfmaaGreatK11
import Derived.Test.YtimkeblcdodfmaaGreatK12
namespace Go.Proofs.YtimkeblcdodfmaaGreat
open Go.RowKit

theorem run_field1 (b : Bool) (p : Option Addr) (n c : Nat) (W : World) : (Instr.field 109 (.agg #[.bool b, .slice p n c]) 1).run Tryz.prog W = .ok (.slice p n c) W := by
  simp [Instr.field, run_underlying Tryz.underlying109, part, asAgg, sizeOf, go_sem]
theorem run_field0 (b : Bool) (p : Option Addr) (n c : Nat) (W : World) : (Instr.field 109 (.agg #[.bool b, .slice p n c]) 0).run Tryz.prog W = .ok (.bool b) W := by
  simp [Instr.field, run_underlying Tryz.underlying109, part, asAgg, sizeOf, go_sem]
attribute [local go_sem] Oper.semAt_some run_field1 run_field0

theorem sgn_le {a b : Nat} : (sgnCmp (a : Int) (b : Int) ≤ 0) ↔ a ≤ b := by
  unfold sgnCmp
  split
  · constructor <;> intro <;> omega
  · split
    · constructor <;> intro <;> omega
    · constructor
      · intro h; omega
      · intro h; omega

/-- What the division has done down to place j. -/
def QuI (xs : List Nat) (C n j : Nat) (qs : List Nat) (R : Nat) : Prop := qs.length = n ∧ Dg BR qs ∧ dv BR (xs.drop j) = dv BR (qs.drop j) * C + R ∧ R < C

theorem QuI.start {xs : List Nat} {C n : Nat} (hn : xs.length = n) (hC : 0 < C) : QuI xs C n n (List.replicate n 0) 0 := by
  refine ⟨by simp, Dg.replicate (by decide) _, ?_, hC⟩
  rw [List.drop_of_length_le (by omega), List.drop_of_length_le (by simp)]
  simp [dv]

theorem QuI.step {xs : List Nat} {C n j : Nat} {qs : List Nat} {R lo : Nat} (h : QuI xs C n (j + 1) qs R) (hj : j < n) (hx : xs.length = n) (hlo : C * lo ≤ xs[j]?.getD 0 + BR * R) (hl9 : lo ≤ 9999) (hr : xs[j]?.getD 0 + BR * R - C * lo < C) : QuI xs C n j (qs.set j lo) (xs[j]?.getD 0 + BR * R - C * lo) := by
  obtain ⟨h1, h2, h3, h4⟩ := h
  refine ⟨by simp [h1], h2.set j (show lo < 10000 by omega), ?_, hr⟩
  rw [dv_drop BR xs j (by omega), drop_set_at' qs j lo (by omega), dv_cons]
  exact quot_step h3 hlo

theorem RIs.drew {w : World} {neg : Bool} {p : Option Addr} {n c : Nat} {xs : List Nat} {z : Int} (h : RIs w neg p n c xs z) : RIs w.drew neg p n c xs z := { rd := h.rd, cap := h.cap, cn := h.cn, pos := h.pos, val := h.val }

/-- What the operations of 'whole = Add(whole, From(1))' yield. -/
def ROne (vr : Value) (z : Int) (i : Nat) (v : Value) (w : World) : Prop :=
  match i with
  | 0 => v = vr
  | 1 => ∃ neg p n c xs, v = .agg #[.bool neg, .slice p n c] ∧ RIs w neg p n c xs 1 ∧ n ≤ 5
  | 2 => ∃ neg p n c xs, v = .agg #[.bool neg, .slice p n c] ∧ RIs w neg p n c xs z
  | _ => True
theorem ROne.mono {S : World → Prop} {vr : Value} {z : Int} : ∀ i v w w', S w → S w' → Below w.heap.size w w' → ROne vr z i v w → ROne vr z i v w' := by
  intro i v w w' _ _ hb h
  match i, h with
  | 0, h => exact h
  | 1, ⟨neg, p, n, c, xs, e, hr, hn⟩ => exact ⟨neg, p, n, c, xs, e, hr.below hb, hn⟩
  | 2, ⟨neg, p, n, c, xs, e, hr⟩ => exact ⟨neg, p, n, c, xs, e, hr.below hb⟩
  | i + 3, _ => trivial

/-- What the operations of 'r = Sub(r, Mul(c, From(low)))' yield. -/
def RSub (vr vc : Value) (lo C U m : Nat) (i : Nat) (v : Value) (w : World) : Prop :=
  match i with
  | 0 => v = vr
  | 1 => v = vc
  | 2 => v = .int .i64 (lo : Int)
  | 3 => ∃ neg p n c xs, v = .agg #[.bool neg, .slice p n c] ∧ RIs w neg p n c xs (lo : Int) ∧ n ≤ 5
  | 4 => ∃ neg p n c xs, v = .agg #[.bool neg, .slice p n c] ∧ RIs w neg p n c xs ((C : Int) * (lo : Int)) ∧ n ≤ m + 5
  | 5 => ∃ neg p n c xs, v = .agg #[.bool neg, .slice p n c] ∧ RIs w neg p n c xs ((U : Int) - (C : Int) * (lo : Int)) ∧ n ≤ m + 10
  | _ => True

theorem RSub.mono {S : World → Prop} {vr vc : Value} {lo C U m : Nat} : ∀ i v w w', S w → S w' → Below w.heap.size w w' → RSub vr vc lo C U m i v w → RSub vr vc lo C U m i v w' := by
  intro i v w w' _ _ hb h
  match i, h with
  | 0, h => exact h
  | 1, h => exact h
  | 2, h => exact h
  | 3, ⟨neg, p, n, c, xs, e, hr, hn⟩ => exact ⟨neg, p, n, c, xs, e, hr.below hb, hn⟩
  | 4, ⟨neg, p, n, c, xs, e, hr, hn⟩ => exact ⟨neg, p, n, c, xs, e, hr.below hb, hn⟩
  | 5, ⟨neg, p, n, c, xs, e, hr, hn⟩ => exact ⟨neg, p, n, c, xs, e, hr.below hb, hn⟩
  | i + 6, _ => trivial

set_option maxRecDepth 100000 in
set_option maxHeartbeats 8000000 in
theorem rdiv_big (a b : Bool) (p q : Option Addr) (n c m d : Nat) (xs ys : List Nat) (x y : Int) (w : World) (hn : n ≤ 100000) (hm : m ≤ 100000) (hx : RIs w a p n c xs x) (hy : RIs w b q m d ys y) (hy0 : y ≠ 0) (hbig : 4 < n ∨ 4 < m) :
    Calls Tryz.prog 99 #[.agg #[.bool a, .slice p n c], .agg #[.bool b, .slice q m d]] w (DivR w x y) := by
  obtain ⟨w1, hw1⟩ : ∃ w1, ((((w.alloc (.cells #[.bool a, .slice p n c] 109)).alloc (.cells #[.bool b, .slice q m d] 109)).alloc (.cells #[.bool false, .slice none 0 0] 109)).alloc (.cells #[.bool false, .slice none 0 0] 109)) = w1 := ⟨_, rfl⟩
  have hb1 : Below w.heap.size w w1 := by
    rw [← hw1]
    exact ((((Below.refl _ w).alloc (Nat.le_refl _) _).alloc (by simp) _).alloc (by rw [World.size_alloc, World.size_alloc]; omega) _).alloc (by rw [World.size_alloc, World.size_alloc, World.size_alloc]; omega) _
  have k0 : Blk w1 w.heap.size #[.bool a, .slice p n c] 109 := by
    rw [← hw1]; exact (((Blk.new w _ _).alloc _).alloc _).alloc _
  have k1 : Blk w1 (w.heap.size + 1) #[.bool b, .slice q m d] 109 := by
    rw [← hw1]; exact ((Blk.new' _ _ _ (by simp)).alloc _).alloc _
  have k2 : Blk w1 (w.heap.size + 1 + 1) #[.bool false, .slice none 0 0] 109 := by
    rw [← hw1]; exact (Blk.new' _ _ _ (by simp)).alloc _
  have k3 : Blk w1 (w.heap.size + 1 + 1 + 1) #[.bool false, .slice none 0 0] 109 := by
    rw [← hw1]; exact Blk.new' _ _ _ (by simp)
  have c0 := k0.cell (i := 0) rfl
  have c1 := k0.cell (i := 1) rfl
  have c2 := k1.cell (i := 0) rfl
  have c3 := k1.cell (i := 1) rfl
  have hx1 := hx.below hb1
  have hy1 := hy.below hb1
  have HX := Lib.hid hx1
  have HY := Lib.hid hy1
  have HY0 := Lib.hid hy0
  clear hx hy hx1 hy1 hy0
  go_enter Tryz.func99, Tryz.ntmps99
  go_upto_region 1 with fail
  go_cut [30] from 21 to 30 (fun v30 wx => v30 = .bool false ∧ Hid (w1 = wx))
  case first =>
    rcases hbig with h | h
    · have h4 : ¬ (n : Int) ≤ 4 := by omega
      go_wp2_with fail
      go_meet
      case rel => exact ⟨rfl, rfl⟩
    · have h5 : ¬ (m : Int) ≤ 4 := by omega
      by_cases h4 : n ≤ 4
      · have h4' : (n : Int) ≤ 4 := by omega
        go_wp2_with fail
        go_meet
        case rel => exact ⟨rfl, rfl⟩
      · have h4' : ¬ (n : Int) ≤ 4 := by omega
        go_wp2_with fail
        go_meet
        case rel => exact ⟨rfl, rfl⟩
  case rest =>
    obtain ⟨rfl, hcut⟩ := hcut
    obtain rfl := hcut.out
    go_wp2_with fail
    refine (rabs_any b q m d ys y _ (by omega) HY.out).mono ?_
    rintro e w2 ⟨b2, q2, m2, d2, zs, rfl, hz, hm2, hb2⟩
    have hz0 : b2 = false := by
      cases b2
      · rfl
      · have := hz.neg_iff.1 rfl; omega
    subst hz0
    obtain ⟨C, hC⟩ : ∃ C, y.natAbs = C := ⟨_, rfl⟩
    rw [hC] at hz
    have hC0 : 0 < C := by have := HY0.out; omega
    have HC := Lib.hid hC
    clear hC
    have hmk : ∀ w, (Instr.makeSlice 55 (.int .i64 (n : Int)) (.int .i64 (n : Int))).run Tryz.prog w = .ok (.slice (some ⟨w.heap.size, 0, none⟩) n n) (w.alloc (.cells (Go.madeCells #[.int .i64 0] n) 3)) := fun w => mkInts n (by omega) w
    obtain ⟨wa, hwa⟩ : ∃ wa, w2.alloc (.cells #[.bool false, .slice q2 m2 d2] 109) = wa := ⟨_, rfl⟩
    have hba : Below w2.heap.size w2 wa := by rw [← hwa]; exact (Below.refl _ _).alloc (Nat.le_refl _) _
    have sza : wa.heap.size = w2.heap.size + 1 := by rw [← hwa, World.size_alloc]
    have q0 : Blk wa w2.heap.size #[.bool false, .slice q2 m2 d2] 109 := by rw [← hwa]; exact Blk.new _ _ _
    obtain ⟨wb, hwb⟩ : ∃ wb, wa.alloc (.cells (Go.madeCells #[.int .i64 0] n) 3) = wb := ⟨_, rfl⟩
    have hbb : Below w2.heap.size w2 wb := by rw [← hwb]; exact hba.alloc hba.size _
    have szb : wb.heap.size = w2.heap.size + 1 + 1 := by rw [← hwb, World.size_alloc, sza]
    have q0 : Blk wb w2.heap.size #[.bool false, .slice q2 m2 d2] 109 := by rw [← hwb]; exact q0.alloc _
    have q1 : Own .i64 3 wb (w2.heap.size + 1) (List.replicate n 0) := by
      have h := Own.new .i64 3 wa n
      rw [sza] at h
      rw [← hwb]; exact h
    obtain ⟨w3, hw3⟩ : ∃ w3, wb.alloc (.cells #[.bool false, .slice none 0 0] 109) = w3 := ⟨_, rfl⟩
    have hb3 : Below w2.heap.size w2 w3 := by rw [← hw3]; exact hbb.alloc hbb.size _
    have q0 : Blk w3 w2.heap.size #[.bool false, .slice q2 m2 d2] 109 := by rw [← hw3]; exact q0.alloc _
    have q1 : Own .i64 3 w3 (w2.heap.size + 1) (List.replicate n 0) := by rw [← hw3]; exact Blk.alloc q1 _
    have q2' : Blk w3 (w2.heap.size + 1 + 1) #[.bool false, .slice none 0 0] 109 := by rw [← hw3]; exact Blk.new' _ _ _ szb.symm
    have k0 := k0.kept hb2
    have k1 := k1.kept hb2
    have k2 := k2.kept hb2
    have k3 := k3.kept hb2
    have hX2 := Lib.hid (HX.out.below hb2)
    have hZ2 := Lib.hid hz
    have hbw2 := hb1.trans (hb2.mono hb1.size)
    have c1 := k0.cell (i := 1) rfl
    have e1 := (k0.kept hb3).cell (i := 1) rfl
    have ea := (k0.kept hba).cell (i := 1) rfl
    have hsz2 : w.heap.size + 1 + 1 + 1 < w2.heap.size := k3.lt
    clear hz c0 c2 c3 hb1 hb2 HX
    go_wp2_with fail
    go_outline
    go_loopg [15] n (fun gk v15 wr => ∃ (j : Nat) (qs : List Nat) (R : Nat) (ar : Bool) (pr : Option Addr) (lr cr : Nat) (rs : List Nat), j ≤ n ∧ gk = j ∧ v15 = .int .i64 ((j : Int) - 1) ∧ Hid (QuI xs C n j qs R) ∧ Own .i64 3 wr (w2.heap.size + 1) qs ∧ Blk wr w2.heap.size #[.bool false, .slice q2 m2 d2] 109 ∧ Blk wr (w2.heap.size + 1 + 1) #[.bool ar, .slice pr lr cr] 109 ∧ RIs wr ar pr lr cr rs (R : Int) ∧ lr ≤ m2 ∧ Below w2.heap.size w2 wr)
    case atStart => exact ⟨n, _, 0, false, none, 0, 0, [], Nat.le_refl _, rfl, rfl, QuI.start hX2.out.rd.1 hC0, q1, q0, q2', RIs.zero _, Nat.zero_le _, hb3⟩
    case round =>
      obtain ⟨j, qs, R, ar, pr, lr, cr, rs, hj, hgk, rfl, HQ, oq, kc, kr, hr, hlr, hbr⟩ := hrel
      have HGK := Lib.hid hgk
      clear hgk q0 q1 q2' c1 e1 ea hw3 hb3 hba hbb hwa hwb sza szb
      have k0 := k0.below hbr (by omega)
      have k1 := k1.below hbr (by omega)
      have c1 := k0.cell (i := 1) rfl
      by_cases hj0 : 0 < j
      · obtain ⟨k, rfl⟩ : ∃ k, j = k + 1 := ⟨j - 1, by omega⟩
        have hki : ((k + 1 : Nat) : Int) - 1 = (k : Int) := by omega
        rw [hki]
        have hkn : (k : Int) < (n : Int) := by omega
        have hx3 := hX2.out.below hbr
        obtain ⟨bx, ox, hp, hbl, hcx⟩ := hx3.rd.2 k (by omega)
        subst hp
        obtain ⟨dg, hdg⟩ : ∃ dg, xs[k]?.getD 0 = dg := ⟨_, rfl⟩
        rw [hdg] at hcx
        have HDG := Lib.hid hdg
        clear hdg
        obtain ⟨wd, hwd⟩ : ∃ wd, wr.alloc (.cells #[.int .i64 (dg : Int)] 3) = wd := ⟨_, rfl⟩
        have hbd : Below wr.heap.size wr wd := by rw [← hwd]; exact (Below.refl _ _).alloc (Nat.le_refl _) _
        have hgd : GrI wd wr.heap.size (.slice (some ⟨wr.heap.size, 0, none⟩) 1 1) [dg] := by rw [← hwd]; exact GrI.one wr dg
        have szd : wr.heap.size ≤ wd.heap.size := hbd.size
        have krd := kr.kept hbd
        have d1 := krd.cell (i := 1) rfl
        have HR := Lib.hid hr
        have szr : w2.heap.size + 1 + 1 < wr.heap.size := kr.lt
        go_wp2_with (at_builtin; refine appI_law rfl _ _ rfl (base := wr.heap.size) (ns := [dg]) rfl hgd rfl (HR.out.below hbd).rd (by simp) (by omega) szd ?_; intro v5 w5 hg5 hb5)
        have hb05 : Below wr.heap.size wr w5 := hbd.trans hb5
        obtain ⟨p5, c5, rfl, hc5, hrd5⟩ := hg5.rd
        obtain ⟨l5, hl5⟩ : ∃ l5, ([dg] ++ rs).length = l5 := ⟨_, rfl⟩
        have hl5' : l5 = 1 + lr := by rw [← hl5, List.length_append, HR.out.rd.1]; rfl
        have d9 : dg < 10000 := by rw [← HDG.out]; exact hX2.out.cn.1.get (by decide) k
        have hgd5 : Dg BR ([dg] ++ rs) := (Dg.cons d9 (Dg.nil _)).append HR.out.cn.1
        rw [hl5] at hrd5 hc5 ⊢
        refine (rnumber_at false p5 l5 c5 ([dg] ++ rs) _ (by unfold maxLen; omega) hc5 hrd5 hgd5).mono ?_
        rintro e w6 ⟨g6, n6, c6, us, rfl, hz6, hn6, hb6⟩
        have H5 := Lib.hid hg5.ge
        have hRv : dv BR rs = R := by
          have := HR.out.val
          have h2 := sv_natAbs ar (dv BR rs)
          rw [← this] at h2
          omega
        obtain ⟨U, hU⟩ : ∃ U, dg + BR * R = U := ⟨_, rfl⟩
        have hUv : sv false (dv BR ([dg] ++ rs)) = (U : Int) := by
          rw [dv_append, hRv]
          show (((dg + BR * 0) + BR ^ 1 * R : Nat) : Int) = _
          rw [← hU]; simp
        rw [hUv] at hz6
        have hg6 : g6 = false := by
          cases g6
          · rfl
          · have := hz6.neg_iff.1 rfl; omega
        subst hg6
        have HUC := Lib.hid (show U < C * 10000 by rw [← hU]; exact quot_room HQ.out.2.2.2 d9)
        have hn6m : n6 ≤ m2 + 1 := hz6.len_le (by
          have h1 : C < BR ^ m2 := hZ2.out.lt
          have h2 : C * BR ≤ BR ^ m2 * BR := Nat.mul_le_mul_right _ (Nat.le_of_lt h1)
          have h3 := HUC.out
          rw [Nat.pow_succ]
          rw [Int.natAbs_natCast]
          exact Nat.lt_of_lt_of_le h3 h2)
        have HU := Lib.hid hU
        clear hU hUv hRv hwd hgd d1 hg5 hrd5 hgd5 hl5 hcx HR hn6
        have hb06 := hb05.trans (hb6.mono hb05.size)
        have kr6 := kr.kept hb06
        have kc6 := kc.kept hb06
        have o6 := oq.below hb06 oq.lt
        have s0 := kr6.cell (i := 0) rfl
        have s1 := kr6.cell (i := 1) rfl
        have s2 := kr6.frozen 0
        have s3 := kr6.frozen 1
        obtain ⟨w7, hw7⟩ : ∃ w7, ((w6.setCell ⟨w2.heap.size + 1 + 1, 0, none⟩ (.bool false)).setCell ⟨w2.heap.size + 1 + 1, 1, none⟩ (.slice p5 n6 c6)) = w7 := ⟨_, rfl⟩
        have kr7 : Blk w7 (w2.heap.size + 1 + 1) #[.bool false, .slice p5 n6 c6] 109 := by rw [← hw7]; exact (kr6.set_eq 0 _ rfl).set_eq 1 _ rfl
        have kc7 : Blk w7 w2.heap.size #[.bool false, .slice q2 m2 d2] 109 := by rw [← hw7]; exact (kc6.other 0 _ (by omega)).other 1 _ (by omega)
        have o7 : Own .i64 3 w7 (w2.heap.size + 1) qs := by rw [← hw7]; exact Blk.other (Blk.other o6 0 _ (by omega)) 1 _ (by omega)
        have hz7 : RIs w7 false p5 n6 c6 us (U : Int) := by rw [← hw7]; exact hz6.setBox kr6 _ _
        have hb7 : Below w2.heap.size w2 w7 := by
          rw [← hw7]
          exact ((hbr.trans (hb06.mono hbr.size)).setCell (by simp <;> omega) _).setCell (by simp <;> omega) _
        have hZ7 := Lib.hid (hZ2.out.below hb7)
        have hz7' := Lib.hid hz7
        clear hz6 hz7 kr6 kc6 o6 hb5 hb05 hb06 hbd krd
        go_wp2_with fail
        go_loopg [17, 18] 9999 (fun gk v17 v18 wx => ∃ lo hi : Nat, gk = hi - lo ∧ v17 = .int .i64 (lo : Int) ∧ v18 = .int .i64 (hi : Int) ∧ lo ≤ 9999 ∧ hi ≤ 9999 ∧ Hid (Bis C U lo hi) ∧ Below w7.heap.size w7 wx)
        case atStart => exact ⟨0, 9999, rfl, rfl, rfl, by omega, by omega, Bis.start HUC.out, Below.refl _ _⟩
        case round =>
          obtain ⟨lo, hi, hgk, rfl, rfl, lo9, hi9, HB, hbx⟩ := hrel
          have HGK2 := Lib.hid hgk
          clear hgk
          by_cases hlt : lo < hi
          · have hlti : (lo : Int) < (hi : Int) := by omega
            obtain ⟨M, hM⟩ : ∃ M, (lo + hi + 1) / 2 = M := ⟨_, rfl⟩
            have hMi : ((lo : Int) + (hi : Int) + 1) / 2 = (M : Int) := by omega
            have hM9 : M ≤ 9999 := by omega
            have hM1 : lo < M := by omega
            have hM2 : M ≤ hi := by omega
            have HM := Lib.hid hM
            clear hM
            have e0 : wr.drew.cell? ⟨w2.heap.size, 0, none⟩ = some (.bool false) := (kc7.kept hbx).cell (i := 0) rfl
            have e1 : wr.drew.cell? ⟨w2.heap.size, 1, none⟩ = some (.slice q2 m2 d2) := (kc7.kept hbx).cell (i := 1) rfl
            have e2 : wr.drew.cell? ⟨w2.heap.size + 1 + 1, 1, none⟩ = some (.slice p5 n6 c6) := (kr7.kept hbx).cell (i := 1) rfl
            have hbD : Below w7.heap.size w7 wr.drew := hbx.drew
            go_wp2_with fail
            go_region_held3 (fun w' => w'.cell? ⟨w2.heap.size, 0, none⟩ = some (.bool false) ∧ w'.cell? ⟨w2.heap.size, 1, none⟩ = some (.slice q2 m2 d2) ∧ w'.cell? ⟨w2.heap.size + 1 + 1, 1, none⟩ = some (.slice p5 n6 c6))
              ((first | exact ⟨e0, e1, e2⟩ | exact ⟨i0, i1, i2⟩ | exact ⟨j0, j1, j2⟩))
              (first
                | (go_at_call 70; refine (from_any _ (by omega) (by omega) _).mono ?_; rintro e wf ⟨nf, pf, lf, cf, xf, rfl, hzf, hnf, hbf⟩; have i0 := cell_call (W := wr.drew) hbf e0; have i1 := cell_call (W := wr.drew) hbf e1; have i2 := cell_call (W := wr.drew) hbf e2; have hbF := hbD.trans (hbf.mono hbD.size))
                | (go_at_call 123; refine (rmul_any _ _ _ _ _ _ _ _ zs xf _ _ _ (by omega) (by omega) (hZ7.out.below hbF) hzf).mono ?_; rintro e wg ⟨ng, pg, lg, cg, xg, rfl, hzg, hng, hbg⟩; have j0 := cell_call hbg i0; have j1 := cell_call hbg i1; have j2 := cell_call hbg i2; have hbG := hbF.trans (hbg.mono hbF.size))
                | (go_at_call 122; refine (rsize_any _ _ _ _ _ _ xg us _ (by omega) (by omega) hzg.rd (hz7'.out.below hbG).rd hzg.cn.1 hz7'.out.cn.1).mono ?_; rintro e w' ⟨rfl, rfl⟩))
            have hMu : ((dv BR xg : Nat) : Int) = ((C * M : Nat) : Int) := by
              have h1 := hzg.val
              have h2 := sv_natAbs ng (dv BR xg)
              rw [← h1] at h2
              rw [← h2, Int.natAbs_mul]
              simp
            have hUu : ((dv BR us : Nat) : Int) = (U : Int) := by
              have h1 := hz7'.out.val
              rw [h1]; rfl
            have hbH : Below w7.heap.size w7 wg := hbG
            rw [hMu, hUu]
            have HBD := Lib.hid hbH
            by_cases hle : C * M ≤ U
            · have hsg : sgnCmp ((C * M : Nat) : Int) (U : Int) ≤ 0 := sgn_le.2 hle
              have HLE := Lib.hid hle
              clear hle hMu hUu
              go_wp2_with fail
              go_roundg (hi - M)
              case measure => rw [HGK2.out]; omega
              case rel => exact ⟨M, hi, rfl, rfl, rfl, hM9, hi9, HB.out.up HM.out.symm hlt HLE.out, HBD.out⟩
            · have hsg : ¬ sgnCmp ((C * M : Nat) : Int) (U : Int) ≤ 0 := fun h => hle (sgn_le.1 h)
              have HLE := Lib.hid hle
              clear hle hMu hUu
              go_wp2_with fail
              go_roundg (M - 1 - lo)
              case measure => rw [HGK2.out]; omega
              case rel => exact ⟨lo, M - 1, rfl, rfl, congrArg (Value.int .i64) (by omega), lo9, by omega, HB.out.down HM.out.symm hlt HLE.out, HBD.out⟩
          · have hlti : ¬ (lo : Int) < (hi : Int) := by omega
            obtain ⟨h1, h2, h3⟩ := HB.out.done hlt
            have HD := Lib.hid (And.intro h1 h2)
            clear h1 h2 h3
            have kr8 := kr7.kept hbx
            have kc8 := kc7.kept hbx
            have o8 := o7.below hbx o7.lt
            have hb8 := hb7.trans (hbx.mono hb7.size)
            have hql := HQ.out.1
            have oc := o8.cell k (by omega)
            have of' := o8.frozen k
            obtain ⟨w9, hw9⟩ : ∃ w9, wr.setCell ⟨w2.heap.size + 1, k, none⟩ (.int .i64 (lo : Int)) = w9 := ⟨_, rfl⟩
            have o9 : Own .i64 3 w9 (w2.heap.size + 1) (qs.set k lo) := by rw [← hw9]; exact o8.set k lo
            have kr9 : Blk w9 (w2.heap.size + 1 + 1) #[.bool false, .slice p5 n6 c6] 109 := by rw [← hw9]; exact kr8.other k _ (by omega)
            have kc9 : Blk w9 w2.heap.size #[.bool false, .slice q2 m2 d2] 109 := by rw [← hw9]; exact kc8.other k _ (by omega)
            have hz8 := hz7'.out.below hbx
            have hz9 : RIs w9 false p5 n6 c6 us (U : Int) := by rw [← hw9]; exact { hz8 with rd := hz8.rd.setFar (fun b o h => by have := H5.out b o h; omega) _ }
            have hb9 : Below w2.heap.size w2 w9 := by rw [← hw9]; exact hb8.setCell (by simp) _
            have HZ9 := Lib.hid (hZ2.out.below hb9)
            have hz9' := Lib.hid hz9
            clear hz8 hz9 kr8 kc8 o8
            go_upto_region 26 with fail
            refine wp_region_flow_last' (by kernel_rfl) (by kernel_rfl) (by kernel_rfl) (RSub (.agg #[.bool false, .slice p5 n6 c6]) (.agg #[.bool false, .slice q2 m2 d2]) lo C U m2) (fun ww => Below w9.heap.size w9 ww) ((Below.refl _ _).drew) RSub.mono ?_ ?_
            · rintro i hi f ww hS hd
              have f0 := (kr9.kept hS).cell (i := 0) rfl
              have f1 := (kr9.kept hS).cell (i := 1) rfl
              have f2 := (kc9.kept hS).cell (i := 0) rfl
              have f3 := (kc9.kept hS).cell (i := 1) rfl
              rcases i with _ | _ | _ | _ | _ | _ | i
              · refine wpOp_list rfl ?_
                simp only [tmOf, putAll, List.map_cons, List.map_nil, List.setIfInBounds_toArray, List.set_cons_zero, List.set_cons_succ]
                go_wp2
                exact ⟨_, ⟨rfl, rfl, rfl, rfl, rfl, rfl⟩, rfl, Below.refl _ _⟩
              · refine wpOp_list rfl ?_
                simp only [tmOf, putAll, List.map_cons, List.map_nil, List.setIfInBounds_toArray, List.set_cons_zero, List.set_cons_succ]
                go_wp2
                exact ⟨_, ⟨rfl, rfl, rfl, rfl, rfl, rfl⟩, rfl, Below.refl _ _⟩
              · refine wpOp_list rfl ?_
                simp only [tmOf, putAll, List.map_cons, List.map_nil, List.setIfInBounds_toArray, List.set_cons_zero, List.set_cons_succ]
                go_wp2
                exact ⟨_, ⟨rfl, rfl, rfl, rfl, rfl, rfl⟩, rfl, Below.refl _ _⟩
              · have g2 : f 2 = .int .i64 (lo : Int) := hd 2 (by kernel_rfl)
                refine wpOp_list rfl ?_
                simp only [tmOf, putAll, List.map_cons, List.map_nil, List.setIfInBounds_toArray, List.set_cons_zero, List.set_cons_succ]
                go_wp2_with fail
                refine (from_any _ (by omega) (by omega) _).mono ?_
                rintro e wf ⟨nf, pf, lf, cf, xf, rfl, hzf, hnf, hbf⟩
                go_wp2_with fail
                exact ⟨_, ⟨rfl, rfl, g2.symm, rfl, rfl, rfl⟩, ⟨_, _, _, _, _, rfl, hzf, hnf⟩, hS.trans (hbf.mono hS.size)⟩
              · have g1 : f 1 = .agg #[.bool false, .slice q2 m2 d2] := hd 1 (by kernel_rfl)
                obtain ⟨nf, pf, lf, cf, xf, g3, hzf, hnf⟩ := hd 3 (by kernel_rfl)
                refine wpOp_list rfl ?_
                simp only [tmOf, putAll, List.map_cons, List.map_nil, List.setIfInBounds_toArray, List.set_cons_zero, List.set_cons_succ]
                go_wp2_with fail
                refine (rmul_any _ _ _ _ _ _ _ _ zs xf _ _ _ (by omega) (by omega) (HZ9.out.below hS) hzf).mono ?_
                rintro e wg ⟨ng, pg, lg, cg, xg, rfl, hzg, hng, hbg⟩
                go_wp2_with fail
                exact ⟨_, ⟨rfl, g1.symm, rfl, g3.symm, rfl, rfl⟩, ⟨_, _, _, _, _, rfl, hzg, by omega⟩, hS.trans (hbg.mono hS.size)⟩
              · have g0 : f 0 = .agg #[.bool false, .slice p5 n6 c6] := hd 0 (by kernel_rfl)
                obtain ⟨nf, pf, lf, cf, xf, g4, hzf, hnf⟩ := hd 4 (by kernel_rfl)
                refine wpOp_list rfl ?_
                simp only [tmOf, putAll, List.map_cons, List.map_nil, List.setIfInBounds_toArray, List.set_cons_zero, List.set_cons_succ]
                go_wp2_with fail
                refine (rsub_any _ _ _ _ _ _ _ _ us xf _ _ _ (by omega) (by omega) (hz9'.out.below hS) hzf).mono ?_
                rintro e wg ⟨ng, pg, lg, cg, xg, rfl, hzg, hng, hbg⟩
                go_wp2_with fail
                exact ⟨_, ⟨g0.symm, rfl, rfl, rfl, g4.symm, rfl⟩, ⟨_, _, _, _, _, rfl, hzg, by omega⟩, hS.trans (hbg.mono hS.size)⟩
              · have : i + 6 < 6 := hi
                omega
            · rintro f ww hS hd
              have f0 := (kr9.kept hS).cell (i := 0) rfl
              have f1 := (kr9.kept hS).cell (i := 1) rfl
              have f2 := (kr9.kept hS).frozen 0
              have f3 := (kr9.kept hS).frozen 1
              obtain ⟨nf, pf, lf, cf, xf, g5, hzf, hnf⟩ := hd 5 (by decide)
              refine wpOp_list rfl ?_
              simp only [tmOf, putAll, List.map_cons, List.map_nil, List.setIfInBounds_toArray, List.set_cons_zero, List.set_cons_succ]
              have hC9 := HD.out.1
              have hR9 := HD.out.2
              obtain ⟨R', hR'⟩ : ∃ R', U - C * lo = R' := ⟨_, rfl⟩
              have hRi : (U : Int) - (C : Int) * (lo : Int) = (R' : Int) := by rw [← hR', ← Int.natCast_mul]; omega
              rw [hRi] at hzf
              have hnf0 : nf = false := by
                cases nf
                · rfl
                · have := hzf.neg_iff.1 rfl; omega
              subst hnf0
              have hlf : lf ≤ m2 := hzf.len_le (by
                have h1 : C < BR ^ m2 := hZ2.out.lt
                rw [Int.natAbs_natCast]
                omega)
              have kr10 := ((kr9.kept hS).set_eq 0 (.bool false) rfl).set_eq 1 (.slice pf lf cf) rfl
              have kc10 := ((kc9.kept hS).other (C := w2.heap.size + 1 + 1) 0 (.bool false) (by omega)).other (C := w2.heap.size + 1 + 1) 1 (.slice pf lf cf) (by omega)
              have o10 := Blk.other (Blk.other (Blk.kept o9 hS) (C := w2.heap.size + 1 + 1) 0 (.bool false) (by omega)) (C := w2.heap.size + 1 + 1) 1 (.slice pf lf cf) (by omega)
              have hz10 := hzf.setBox (kr9.kept hS) false (.slice pf lf cf)
              have hb10 := ((hb9.trans (hS.mono hb9.size)).setCell (p := ⟨w2.heap.size + 1 + 1, 0, none⟩) (by simp only; omega) (.bool false)).setCell (p := ⟨w2.heap.size + 1 + 1, 1, none⟩) (by simp only; omega) (.slice pf lf cf)
              have HST := Lib.hid (HQ.out.step (lo := lo) (by omega) hX2.out.rd.1 (by rw [HDG.out, HU.out]; exact hC9) (by have := HB.out.done hlt; exact this.2.2) (by rw [HDG.out, HU.out]; exact hR9))
              have HR' := Lib.hid hR'
              clear hR' hRi
              go_wp2
              go_roundg k
              case measure => rw [HGK.out]; omega
              case rel => exact ⟨k, qs.set k lo, R', false, pf, lf, cf, xf, by omega, rfl, rfl, by have h := HST.out; rw [HDG.out, HU.out, HR'.out] at h; exact h, o10, kc10, kr10, hz10, hlf, hb10⟩
      · obtain rfl : j = 0 := by omega
        have hx3 := hX2.out.below hbr
        have k2 := k2.below hbr (by omega)
        have k3 := k3.below hbr (by omega)
        have c0 := k0.cell (i := 0) rfl
        have e0 := k1.cell (i := 0) rfl
        obtain ⟨q1, q2', q3, q4⟩ := HQ.out
        rw [List.drop_zero, List.drop_zero] at q3
        have hRv : dv BR rs = R := by
          have := hr.val
          have h2 := sv_natAbs ar (dv BR rs)
          rw [← this] at h2
          omega
        have hsq := signed_quot (x := x) (y := y) (Q := dv BR qs) (R := R) (C := C) a b hX2.out.neg_iff (HY.out.neg_iff) HC.out.symm (by
          have h1 := hX2.out.val
          have h2 := sv_natAbs a (dv BR xs)
          rw [← h1] at h2
          rw [h2]; exact q3) q4
        have HSQ := Lib.hid hsq
        clear hsq
        have hlz : lr = 0 ↔ R = 0 := by
          have h := hr.zero_iff
          constructor
          · intro e; have := h.2 e; omega
          · intro e; exact h.1 (by rw [e]; rfl)
        have HLZ := Lib.hid hlz
        clear hlz
        have m1 : ((0 : Nat) : Int) - 1 = -1 := by decide
        rw [m1]
        go_wp2_with fail
        refine (rnumber_any (a != b) _ n n qs _ (by unfold maxLen; omega) (Nat.le_refl _) (oq.rd q1) q2').mono ?_
        rintro e w4 ⟨g4, p4, n4, c4, vs, rfl, hz4, hn4, hb4⟩
        obtain ⟨w5, hw5⟩ : ∃ w5, w4.alloc (.cells #[.bool g4, .slice p4 n4 c4] 109) = w5 := ⟨_, rfl⟩
        have hb5 : Below wr.heap.size wr w5 := by rw [← hw5]; exact hb4.alloc hb4.size _
        have hb45 : Below w4.heap.size w4 w5 := by rw [← hw5]; exact (Below.refl _ _).alloc (Nat.le_refl _) _
        have kw : Blk w5 w4.heap.size #[.bool g4, .slice p4 n4 c4] 109 := by rw [← hw5]; exact Blk.new _ _ _
        have hz5 := hz4.below hb45
        have sz4 : wr.heap.size ≤ w4.heap.size := hb4.size
        have szr : w2.heap.size + 1 + 1 < wr.heap.size := kr.lt
        have kr5 := kr.kept hb5
        have kc5 := kc.kept hb5
        have hr5 := hr.below hb5
        have k05 := k0.kept hb5
        have k15 := k1.kept hb5
        have k25 := k2.kept hb5
        have k35 := k3.kept hb5
        have hb25 := hbr.trans (hb5.mono hbr.size)
        have d1 := kr5.cell (i := 1) rfl
        have g0 := kw.cell (i := 0) rfl
        have g1 := kw.cell (i := 1) rfl
        have g2 := kr5.cell (i := 0) rfl
        cases a
        · have d0 := k05.cell (i := 0) rfl
          have hq := HSQ.out.1 (.inl rfl)
          have hzq : RIs w5 g4 p4 n4 c4 vs (x / y) := by
            rw [hq.1]
            exact hz5
          have hzr : RIs w5 ar pr lr cr rs (x % y) := by rw [hq.2]; exact hr5
          have HZQ := Lib.hid (And.intro hzq hzr)
          clear hq hzq hzr
          have x0 := kw.cell (i := 0) rfl
          have x1 := kw.cell (i := 1) rfl
          have x2 := kr5.cell (i := 0) rfl
          have x3 := kr5.cell (i := 1) rfl
          have y0 := k25.cell (i := 0) rfl
          have y1 := k25.cell (i := 1) rfl
          have y2 := k35.cell (i := 0) rfl
          have y3 := k35.cell (i := 1) rfl
          have z0 := k25.frozen 0
          have z1 := k25.frozen 1
          have z2 := k35.frozen 0
          have z3 := k35.frozen 1
          have nn1 : w.heap.size + 1 + 1 ≠ w4.heap.size := by omega
          have nn2 : w.heap.size + 1 + 1 ≠ w2.heap.size + 1 + 1 := by omega
          have nn3 : w.heap.size + 1 + 1 + 1 ≠ w4.heap.size := by omega
          have nn4 : w.heap.size + 1 + 1 + 1 ≠ w2.heap.size + 1 + 1 := by omega
          go_wp2_with fail
          go_region
          all_goals
            go_wp2
            have u2 := (k25.set_eq 0 (.bool g4) rfl).set_eq 1 (.slice p4 n4 c4) rfl
            have u3 := (k35.other (C := w.heap.size + 1 + 1) 0 (.bool g4) (by omega)).other (C := w.heap.size + 1 + 1) 1 (.slice p4 n4 c4) (by omega)
            have v2 := (u2.other (C := w.heap.size + 1 + 1 + 1) 0 (.bool ar) (by omega)).other (C := w.heap.size + 1 + 1 + 1) 1 (.slice pr lr cr) (by omega)
            have v3 := (u3.set_eq 0 (.bool ar) rfl).set_eq 1 (.slice pr lr cr) rfl
            have a0 := v2.cell (i := 0) rfl
            have a1 := v2.cell (i := 1) rfl
            have a2 := v3.cell (i := 0) rfl
            have a3 := v3.cell (i := 1) rfl
            have l1 := (HZQ.out.1.setBox k25 g4 (.slice p4 n4 c4)).setBox u3 ar (.slice pr lr cr)
            have l2 := (HZQ.out.2.setBox k25 g4 (.slice p4 n4 c4)).setBox u3 ar (.slice pr lr cr)
            refine bodyPost_ret (v := .tuple #[.agg #[.bool g4, .slice p4 n4 c4], .agg #[.bool ar, .slice pr lr cr]]) (by simp [results, Tryz.results99, go_sem, a0, a1, a2, a3]) rfl ⟨g4, p4, n4, c4, vs, ar, pr, lr, cr, rs, rfl, l1.drew, l2.drew, ?_⟩
            exact (((((hbw2.trans (hb25.mono hbw2.size)).setCell (p := ⟨w.heap.size + 1 + 1, 0, none⟩) (by simp only; omega) _).setCell (p := ⟨w.heap.size + 1 + 1, 1, none⟩) (by simp only; omega) _).setCell (p := ⟨w.heap.size + 1 + 1 + 1, 0, none⟩) (by simp only; omega) _).setCell (p := ⟨w.heap.size + 1 + 1 + 1, 1, none⟩) (by simp only; omega) _).drew
        · have d0 := k05.cell (i := 0) rfl
          by_cases hl0 : 0 < lr
          · have hl0i : (0 : Int) < (lr : Int) := by omega
            have hq := HSQ.out.2 rfl (fun e => by have := HLZ.out.2 e; omega)
            have HQ2 := Lib.hid hq
            clear hq
            have e0 := kc5.cell (i := 0) rfl
            have e1 := kc5.cell (i := 1) rfl
            have hZ5 := hZ2.out.below hb25
            go_wp2_with fail
            refine (rsub_any _ _ _ _ _ _ _ _ zs rs _ _ _ (by omega) (by omega) hZ5 hr5).mono ?_
            rintro e w6 ⟨g6, p6, n6, c6, us, rfl, hz6, hn6, hb6⟩
            rw [← HQ2.out.2] at hz6
            have kr6 := kr5.kept hb6
            have kw6 := kw.kept hb6
            have k16 := k15.kept hb6
            have k26 := k25.kept hb6
            have k36 := k35.kept hb6
            have f2 := kr6.cell (i := 0) rfl
            have f3 := kr6.cell (i := 1) rfl
            have f4 := kr6.frozen 0
            have f5 := kr6.frozen 1
            obtain ⟨w7, hw7⟩ : ∃ w7, ((w6.setCell ⟨w2.heap.size + 1 + 1, 0, none⟩ (.bool g6)).setCell ⟨w2.heap.size + 1 + 1, 1, none⟩ (.slice p6 n6 c6)) = w7 := ⟨_, rfl⟩
            have kr7 : Blk w7 (w2.heap.size + 1 + 1) #[.bool g6, .slice p6 n6 c6] 109 := by rw [← hw7]; exact (kr6.set_eq 0 _ rfl).set_eq 1 _ rfl
            have kw7 : Blk w7 w4.heap.size #[.bool g4, .slice p4 n4 c4] 109 := by rw [← hw7]; exact (kw6.other 0 _ (by omega)).other 1 _ (by omega)
            have k17 := (k16.other (C := w2.heap.size + 1 + 1) 0 (.bool g6) (by omega)).other (C := w2.heap.size + 1 + 1) 1 (.slice p6 n6 c6) (by omega)
            have k27 := (k26.other (C := w2.heap.size + 1 + 1) 0 (.bool g6) (by omega)).other (C := w2.heap.size + 1 + 1) 1 (.slice p6 n6 c6) (by omega)
            have k37 := (k36.other (C := w2.heap.size + 1 + 1) 0 (.bool g6) (by omega)).other (C := w2.heap.size + 1 + 1) 1 (.slice p6 n6 c6) (by omega)
            rw [hw7] at k17 k27 k37
            have hz7 : RIs w7 g6 p6 n6 c6 us (x % y) := by rw [← hw7]; exact hz6.setBox kr6 _ _
            have hq7 : RIs w7 g4 p4 n4 c4 vs (sv (true != b) (dv BR qs)) := by rw [← hw7]; exact (hz5.below hb6).setBox kr6 _ _
            have hb7 : Below w2.heap.size w2 w7 := by
              rw [← hw7]
              exact ((hb25.trans (hb6.mono hb25.size)).setCell (p := ⟨w2.heap.size + 1 + 1, 0, none⟩) (by simp only; omega) _).setCell (p := ⟨w2.heap.size + 1 + 1, 1, none⟩) (by simp only; omega) _
            have HB7 := Lib.hid (And.intro hq7 hz7)
            have b0 := k17.cell (i := 0) rfl
            clear hq7 hz7 hz6 hZ5 kr6 kw6 k16 k26 k36 e0 e1 d0 d1 g0 g1 g2 hb6
            cases b
            · go_upto_region 32 with fail
              have hq1 : sv (true != false) (dv BR qs) - 1 = x / y := by
                rw [HQ2.out.1]; rfl
              have HQ1 := Lib.hid hq1
              clear hq1
              refine wp_region_flow_last' (by kernel_rfl) (by kernel_rfl) (by kernel_rfl) (ROne (.agg #[.bool g4, .slice p4 n4 c4]) (x / y)) (fun ww => Below w7.heap.size w7 ww) ((Below.refl _ _).drew) ROne.mono ?_ ?_
              · rintro i hi f ww hS hd
                have f0 := (kw7.kept hS).cell (i := 0) rfl
                have f1 := (kw7.kept hS).cell (i := 1) rfl
                rcases i with _ | _ | _ | i
                · refine wpOp_list rfl ?_
                  simp only [tmOf, putAll, List.map_cons, List.map_nil, List.setIfInBounds_toArray, List.set_cons_zero, List.set_cons_succ]
                  go_wp2
                  exact ⟨_, ⟨rfl, rfl, rfl⟩, rfl, Below.refl _ _⟩
                · refine wpOp_list rfl ?_
                  simp only [tmOf, putAll, List.map_cons, List.map_nil, List.setIfInBounds_toArray, List.set_cons_zero, List.set_cons_succ]
                  go_wp2_with fail
                  refine (from_any 1 (by omega) (by omega) _).mono ?_
                  rintro e wf ⟨nf, pf, lf, cf, xf, rfl, hzf, hnf, hbf⟩
                  go_wp2_with fail
                  exact ⟨_, ⟨rfl, rfl, rfl⟩, ⟨_, _, _, _, _, rfl, hzf, hnf⟩, hS.trans (hbf.mono hS.size)⟩
                · have g0 : f 0 = .agg #[.bool g4, .slice p4 n4 c4] := hd 0 (by kernel_rfl)
                  obtain ⟨nf, pf, lf, cf, xf, g1, hzf, hnf⟩ := hd 1 (by kernel_rfl)
                  refine wpOp_list rfl ?_
                  simp only [tmOf, putAll, List.map_cons, List.map_nil, List.setIfInBounds_toArray, List.set_cons_zero, List.set_cons_succ]
                  go_wp2_with fail
                  refine (rsub_any _ _ _ _ _ _ _ _ vs xf _ _ _ (by omega) (by omega) (HB7.out.1.below hS) hzf).mono ?_
                  rintro e wg ⟨ng, pg, lg, cg, xg, rfl, hzg, hng, hbg⟩
                  rw [HQ1.out] at hzg
                  go_wp2_with fail
                  exact ⟨_, ⟨g0.symm, g1.symm, rfl⟩, ⟨_, _, _, _, _, rfl, hzg⟩, hS.trans (hbg.mono hS.size)⟩
                · have : i + 3 < 3 := hi
                  omega
              · rintro f ww hS hd
                have f0 := (kw7.kept hS).cell (i := 0) rfl
                have f1 := (kw7.kept hS).cell (i := 1) rfl
                have f2 := (kw7.kept hS).frozen 0
                have f3 := (kw7.kept hS).frozen 1
                obtain ⟨g8, p8, n8, c8, us8, h5, hz8⟩ := hd 2 (by decide)
                refine wpOp_list rfl ?_
                simp only [tmOf, putAll, List.map_cons, List.map_nil, List.setIfInBounds_toArray, List.set_cons_zero, List.set_cons_succ]
                obtain ⟨w9, hw9⟩ : ∃ w9, ((ww.setCell ⟨w4.heap.size, 0, none⟩ (.bool g8)).setCell ⟨w4.heap.size, 1, none⟩ (.slice p8 n8 c8)) = w9 := ⟨_, rfl⟩
                have kw9 : Blk w9 w4.heap.size #[.bool g8, .slice p8 n8 c8] 109 := by rw [← hw9]; exact ((kw7.kept hS).set_eq 0 _ rfl).set_eq 1 _ rfl
                have kr9 : Blk w9 (w2.heap.size + 1 + 1) #[.bool g6, .slice p6 n6 c6] 109 := by rw [← hw9]; exact ((kr7.kept hS).other 0 _ (by omega)).other 1 _ (by omega)
                have k29 := ((k27.kept hS).other (C := w4.heap.size) 0 (.bool g8) (by omega)).other (C := w4.heap.size) 1 (.slice p8 n8 c8) (by omega)
                have k39 := ((k37.kept hS).other (C := w4.heap.size) 0 (.bool g8) (by omega)).other (C := w4.heap.size) 1 (.slice p8 n8 c8) (by omega)
                rw [hw9] at k29 k39
                have hq9 : RIs w9 g8 p8 n8 c8 us8 (x / y) := by rw [← hw9]; exact hz8.setBox (kw7.kept hS) _ _
                have hr9 : RIs w9 g6 p6 n6 c6 us (x % y) := by rw [← hw9]; exact (HB7.out.2.below hS).setBox (kw7.kept hS) _ _
                have hb9 : Below w2.heap.size w2 w9 := by
                  rw [← hw9]
                  exact ((hb7.trans (hS.mono hb7.size)).setCell (p := ⟨w4.heap.size, 0, none⟩) (by simp only; omega) _).setCell (p := ⟨w4.heap.size, 1, none⟩) (by simp only; omega) _
                have HZ9 := Lib.hid (And.intro hq9 hr9)
                clear hq9 hr9 hz8 b0
                have x0 := kw9.cell (i := 0) rfl
                have x1 := kw9.cell (i := 1) rfl
                have x2 := kr9.cell (i := 0) rfl
                have x3 := kr9.cell (i := 1) rfl
                have y0 := k29.cell (i := 0) rfl
                have y1 := k29.cell (i := 1) rfl
                have y2 := k39.cell (i := 0) rfl
                have y3 := k39.cell (i := 1) rfl
                have z0 := k29.frozen 0
                have z1 := k29.frozen 1
                have z2 := k39.frozen 0
                have z3 := k39.frozen 1
                have nn1 : w.heap.size + 1 + 1 ≠ w4.heap.size := by omega
                have nn2 : w.heap.size + 1 + 1 ≠ w2.heap.size + 1 + 1 := by omega
                have nn3 : w.heap.size + 1 + 1 + 1 ≠ w4.heap.size := by omega
                have nn4 : w.heap.size + 1 + 1 + 1 ≠ w2.heap.size + 1 + 1 := by omega
                go_wp2_with fail
                go_region
                all_goals
                  go_wp2
                  have u2 := (k29.set_eq 0 (.bool g8) rfl).set_eq 1 (.slice p8 n8 c8) rfl
                  have u3 := (k39.other (C := w.heap.size + 1 + 1) 0 (.bool g8) (by omega)).other (C := w.heap.size + 1 + 1) 1 (.slice p8 n8 c8) (by omega)
                  have v2 := (u2.other (C := w.heap.size + 1 + 1 + 1) 0 (.bool g6) (by omega)).other (C := w.heap.size + 1 + 1 + 1) 1 (.slice p6 n6 c6) (by omega)
                  have v3 := (u3.set_eq 0 (.bool g6) rfl).set_eq 1 (.slice p6 n6 c6) rfl
                  have a0 := v2.cell (i := 0) rfl
                  have a1 := v2.cell (i := 1) rfl
                  have a2 := v3.cell (i := 0) rfl
                  have a3 := v3.cell (i := 1) rfl
                  have l1 := (HZ9.out.1.setBox k29 g8 (.slice p8 n8 c8)).setBox u3 g6 (.slice p6 n6 c6)
                  have l2 := (HZ9.out.2.setBox k29 g8 (.slice p8 n8 c8)).setBox u3 g6 (.slice p6 n6 c6)
                  refine bodyPost_ret (v := .tuple #[.agg #[.bool g8, .slice p8 n8 c8], .agg #[.bool g6, .slice p6 n6 c6]]) (by simp [results, Tryz.results99, go_sem, a0, a1, a2, a3]) rfl ⟨g8, p8, n8, c8, us8, g6, p6, n6, c6, us, rfl, l1.drew, l2.drew, ?_⟩
                  exact (((((hbw2.trans (hb9.mono hbw2.size)).setCell (p := ⟨w.heap.size + 1 + 1, 0, none⟩) (by simp only; omega) _).setCell (p := ⟨w.heap.size + 1 + 1, 1, none⟩) (by simp only; omega) _).setCell (p := ⟨w.heap.size + 1 + 1 + 1, 0, none⟩) (by simp only; omega) _).setCell (p := ⟨w.heap.size + 1 + 1 + 1, 1, none⟩) (by simp only; omega) _).drew
            · go_upto_region 31 with fail
              have hq1 : sv (true != true) (dv BR qs) + 1 = x / y := by
                rw [HQ2.out.1]; rfl
              have HQ1 := Lib.hid hq1
              clear hq1
              refine wp_region_flow_last' (by kernel_rfl) (by kernel_rfl) (by kernel_rfl) (ROne (.agg #[.bool g4, .slice p4 n4 c4]) (x / y)) (fun ww => Below w7.heap.size w7 ww) ((Below.refl _ _).drew) ROne.mono ?_ ?_
              · rintro i hi f ww hS hd
                have f0 := (kw7.kept hS).cell (i := 0) rfl
                have f1 := (kw7.kept hS).cell (i := 1) rfl
                rcases i with _ | _ | _ | i
                · refine wpOp_list rfl ?_
                  simp only [tmOf, putAll, List.map_cons, List.map_nil, List.setIfInBounds_toArray, List.set_cons_zero, List.set_cons_succ]
                  go_wp2
                  exact ⟨_, ⟨rfl, rfl, rfl⟩, rfl, Below.refl _ _⟩
                · refine wpOp_list rfl ?_
                  simp only [tmOf, putAll, List.map_cons, List.map_nil, List.setIfInBounds_toArray, List.set_cons_zero, List.set_cons_succ]
                  go_wp2_with fail
                  refine (from_any 1 (by omega) (by omega) _).mono ?_
                  rintro e wf ⟨nf, pf, lf, cf, xf, rfl, hzf, hnf, hbf⟩
                  go_wp2_with fail
                  exact ⟨_, ⟨rfl, rfl, rfl⟩, ⟨_, _, _, _, _, rfl, hzf, hnf⟩, hS.trans (hbf.mono hS.size)⟩
                · have g0 : f 0 = .agg #[.bool g4, .slice p4 n4 c4] := hd 0 (by kernel_rfl)
                  obtain ⟨nf, pf, lf, cf, xf, g1, hzf, hnf⟩ := hd 1 (by kernel_rfl)
                  refine wpOp_list rfl ?_
                  simp only [tmOf, putAll, List.map_cons, List.map_nil, List.setIfInBounds_toArray, List.set_cons_zero, List.set_cons_succ]
                  go_wp2_with fail
                  refine (radd_any _ _ _ _ _ _ _ _ vs xf _ _ _ (by omega) (by omega) (HB7.out.1.below hS) hzf).mono ?_
                  rintro e wg ⟨ng, pg, lg, cg, xg, rfl, hzg, hng, hbg⟩
                  rw [HQ1.out] at hzg
                  go_wp2_with fail
                  exact ⟨_, ⟨g0.symm, g1.symm, rfl⟩, ⟨_, _, _, _, _, rfl, hzg⟩, hS.trans (hbg.mono hS.size)⟩
                · have : i + 3 < 3 := hi
                  omega
              · rintro f ww hS hd
                have f0 := (kw7.kept hS).cell (i := 0) rfl
                have f1 := (kw7.kept hS).cell (i := 1) rfl
                have f2 := (kw7.kept hS).frozen 0
                have f3 := (kw7.kept hS).frozen 1
                obtain ⟨g8, p8, n8, c8, us8, h5, hz8⟩ := hd 2 (by decide)
                refine wpOp_list rfl ?_
                simp only [tmOf, putAll, List.map_cons, List.map_nil, List.setIfInBounds_toArray, List.set_cons_zero, List.set_cons_succ]
                obtain ⟨w9, hw9⟩ : ∃ w9, ((ww.setCell ⟨w4.heap.size, 0, none⟩ (.bool g8)).setCell ⟨w4.heap.size, 1, none⟩ (.slice p8 n8 c8)) = w9 := ⟨_, rfl⟩
                have kw9 : Blk w9 w4.heap.size #[.bool g8, .slice p8 n8 c8] 109 := by rw [← hw9]; exact ((kw7.kept hS).set_eq 0 _ rfl).set_eq 1 _ rfl
                have kr9 : Blk w9 (w2.heap.size + 1 + 1) #[.bool g6, .slice p6 n6 c6] 109 := by rw [← hw9]; exact ((kr7.kept hS).other 0 _ (by omega)).other 1 _ (by omega)
                have k29 := ((k27.kept hS).other (C := w4.heap.size) 0 (.bool g8) (by omega)).other (C := w4.heap.size) 1 (.slice p8 n8 c8) (by omega)
                have k39 := ((k37.kept hS).other (C := w4.heap.size) 0 (.bool g8) (by omega)).other (C := w4.heap.size) 1 (.slice p8 n8 c8) (by omega)
                rw [hw9] at k29 k39
                have hq9 : RIs w9 g8 p8 n8 c8 us8 (x / y) := by rw [← hw9]; exact hz8.setBox (kw7.kept hS) _ _
                have hr9 : RIs w9 g6 p6 n6 c6 us (x % y) := by rw [← hw9]; exact (HB7.out.2.below hS).setBox (kw7.kept hS) _ _
                have hb9 : Below w2.heap.size w2 w9 := by
                  rw [← hw9]
                  exact ((hb7.trans (hS.mono hb7.size)).setCell (p := ⟨w4.heap.size, 0, none⟩) (by simp only; omega) _).setCell (p := ⟨w4.heap.size, 1, none⟩) (by simp only; omega) _
                have HZ9 := Lib.hid (And.intro hq9 hr9)
                clear hq9 hr9 hz8 b0
                have x0 := kw9.cell (i := 0) rfl
                have x1 := kw9.cell (i := 1) rfl
                have x2 := kr9.cell (i := 0) rfl
                have x3 := kr9.cell (i := 1) rfl
                have y0 := k29.cell (i := 0) rfl
                have y1 := k29.cell (i := 1) rfl
                have y2 := k39.cell (i := 0) rfl
                have y3 := k39.cell (i := 1) rfl
                have z0 := k29.frozen 0
                have z1 := k29.frozen 1
                have z2 := k39.frozen 0
                have z3 := k39.frozen 1
                have nn1 : w.heap.size + 1 + 1 ≠ w4.heap.size := by omega
                have nn2 : w.heap.size + 1 + 1 ≠ w2.heap.size + 1 + 1 := by omega
                have nn3 : w.heap.size + 1 + 1 + 1 ≠ w4.heap.size := by omega
                have nn4 : w.heap.size + 1 + 1 + 1 ≠ w2.heap.size + 1 + 1 := by omega
                go_wp2_with fail
                go_region
                all_goals
                  go_wp2
                  have u2 := (k29.set_eq 0 (.bool g8) rfl).set_eq 1 (.slice p8 n8 c8) rfl
                  have u3 := (k39.other (C := w.heap.size + 1 + 1) 0 (.bool g8) (by omega)).other (C := w.heap.size + 1 + 1) 1 (.slice p8 n8 c8) (by omega)
                  have v2 := (u2.other (C := w.heap.size + 1 + 1 + 1) 0 (.bool g6) (by omega)).other (C := w.heap.size + 1 + 1 + 1) 1 (.slice p6 n6 c6) (by omega)
                  have v3 := (u3.set_eq 0 (.bool g6) rfl).set_eq 1 (.slice p6 n6 c6) rfl
                  have a0 := v2.cell (i := 0) rfl
                  have a1 := v2.cell (i := 1) rfl
                  have a2 := v3.cell (i := 0) rfl
                  have a3 := v3.cell (i := 1) rfl
                  have l1 := (HZ9.out.1.setBox k29 g8 (.slice p8 n8 c8)).setBox u3 g6 (.slice p6 n6 c6)
                  have l2 := (HZ9.out.2.setBox k29 g8 (.slice p8 n8 c8)).setBox u3 g6 (.slice p6 n6 c6)
                  refine bodyPost_ret (v := .tuple #[.agg #[.bool g8, .slice p8 n8 c8], .agg #[.bool g6, .slice p6 n6 c6]]) (by simp [results, Tryz.results99, go_sem, a0, a1, a2, a3]) rfl ⟨g8, p8, n8, c8, us8, g6, p6, n6, c6, us, rfl, l1.drew, l2.drew, ?_⟩
                  exact (((((hbw2.trans (hb9.mono hbw2.size)).setCell (p := ⟨w.heap.size + 1 + 1, 0, none⟩) (by simp only; omega) _).setCell (p := ⟨w.heap.size + 1 + 1, 1, none⟩) (by simp only; omega) _).setCell (p := ⟨w.heap.size + 1 + 1 + 1, 0, none⟩) (by simp only; omega) _).setCell (p := ⟨w.heap.size + 1 + 1 + 1, 1, none⟩) (by simp only; omega) _).drew
          · have hl0i : ¬ (0 : Int) < (lr : Int) := by omega
            have hq := HSQ.out.1 (.inr (HLZ.out.1 (by omega)))
            have hzq : RIs w5 g4 p4 n4 c4 vs (x / y) := by
              rw [hq.1]
              exact hz5
            have hzr : RIs w5 ar pr lr cr rs (x % y) := by rw [hq.2]; exact hr5
            have HZQ := Lib.hid (And.intro hzq hzr)
            clear hq hzq hzr
            have x0 := kw.cell (i := 0) rfl
            have x1 := kw.cell (i := 1) rfl
            have x2 := kr5.cell (i := 0) rfl
            have x3 := kr5.cell (i := 1) rfl
            have y0 := k25.cell (i := 0) rfl
            have y1 := k25.cell (i := 1) rfl
            have y2 := k35.cell (i := 0) rfl
            have y3 := k35.cell (i := 1) rfl
            have z0 := k25.frozen 0
            have z1 := k25.frozen 1
            have z2 := k35.frozen 0
            have z3 := k35.frozen 1
            have nn1 : w.heap.size + 1 + 1 ≠ w4.heap.size := by omega
            have nn2 : w.heap.size + 1 + 1 ≠ w2.heap.size + 1 + 1 := by omega
            have nn3 : w.heap.size + 1 + 1 + 1 ≠ w4.heap.size := by omega
            have nn4 : w.heap.size + 1 + 1 + 1 ≠ w2.heap.size + 1 + 1 := by omega
            go_wp2_with fail
            go_region
            all_goals
              go_wp2
              have u2 := (k25.set_eq 0 (.bool g4) rfl).set_eq 1 (.slice p4 n4 c4) rfl
              have u3 := (k35.other (C := w.heap.size + 1 + 1) 0 (.bool g4) (by omega)).other (C := w.heap.size + 1 + 1) 1 (.slice p4 n4 c4) (by omega)
              have v2 := (u2.other (C := w.heap.size + 1 + 1 + 1) 0 (.bool ar) (by omega)).other (C := w.heap.size + 1 + 1 + 1) 1 (.slice pr lr cr) (by omega)
              have v3 := (u3.set_eq 0 (.bool ar) rfl).set_eq 1 (.slice pr lr cr) rfl
              have a0 := v2.cell (i := 0) rfl
              have a1 := v2.cell (i := 1) rfl
              have a2 := v3.cell (i := 0) rfl
              have a3 := v3.cell (i := 1) rfl
              have l1 := (HZQ.out.1.setBox k25 g4 (.slice p4 n4 c4)).setBox u3 ar (.slice pr lr cr)
              have l2 := (HZQ.out.2.setBox k25 g4 (.slice p4 n4 c4)).setBox u3 ar (.slice pr lr cr)
              refine bodyPost_ret (v := .tuple #[.agg #[.bool g4, .slice p4 n4 c4], .agg #[.bool ar, .slice pr lr cr]]) (by simp [results, Tryz.results99, go_sem, a0, a1, a2, a3]) rfl ⟨g4, p4, n4, c4, vs, ar, pr, lr, cr, rs, rfl, l1.drew, l2.drew, ?_⟩
              exact (((((hbw2.trans (hb25.mono hbw2.size)).setCell (p := ⟨w.heap.size + 1 + 1, 0, none⟩) (by simp only; omega) _).setCell (p := ⟨w.heap.size + 1 + 1, 1, none⟩) (by simp only; omega) _).setCell (p := ⟨w.heap.size + 1 + 1 + 1, 0, none⟩) (by simp only; omega) _).setCell (p := ⟨w.heap.size + 1 + 1 + 1, 1, none⟩) (by simp only; omega) _).drew

theorem rdiv_any (a b : Bool) (p q : Option Addr) (n c m d : Nat) (xs ys : List Nat) (x y : Int) (w : World) (hn : n ≤ 100000) (hm : m ≤ 100000) (hx : RIs w a p n c xs x) (hy : RIs w b q m d ys y) (hy0 : y ≠ 0) :
    Calls Tryz.prog 99 #[.agg #[.bool a, .slice p n c], .agg #[.bool b, .slice q m d]] w (DivR w x y) := by
  by_cases h : n ≤ 4 ∧ m ≤ 4
  · exact rdiv_small a b p q n c m d xs ys x y w h.1 h.2 hx hy hy0
  · exact rdiv_big a b p q n c m d xs ys x y w hn hm hx hy hy0 (by omega)

end Go.Proofs.YtimkeblcdodfmaaGreat
