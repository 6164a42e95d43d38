/-
  The reference: the string of an integer.
-/
import Derived.Test.YtapfkinpdinbgaaDoorRefInt
namespace Go.Proofs.YtapfkinpdinbgaaDoor
open Go.RowKit Go.Lib

/-- The digits of what has been read; none of 0. -/
def decT (v : Nat) : List UInt8 := if v = 0 then [] else decDigits v

theorem decT_step {v c : Nat} (hc : c < 10) : decT (v * 10 + c) = if c = 0 ∧ v = 0 then [] else decT v ++ [UInt8.ofNat (48 + c)] := by
  unfold decT
  by_cases hv : v = 0
  · subst hv
    by_cases h0 : c = 0
    · subst h0; simp
    · rw [if_neg (by omega), if_neg (by omega), if_pos rfl, Nat.zero_mul, Nat.zero_add, decDigits.eq_1, dif_pos hc]; rfl
  · rw [if_neg (by omega), if_neg (by omega), if_neg hv, decDigits_snoc (by omega) hc]

theorem decT_pos {v : Nat} : 0 < (decT v).length ↔ 0 < v := by
  unfold decT
  by_cases h : v = 0
  · simp [h]
  · rw [if_neg h, decDigits_length]; have := nDigits_pos v; omega

theorem decT_len {v k : Nat} (h : v < 10 ^ k) (hk : 1 ≤ k) : (decT v).length ≤ k := by
  unfold decT
  by_cases h0 : v = 0
  · simp [h0]
  · rw [if_neg h0, decDigits_length]; exact nDigits_le hk h

/-- The places of one digit to the base 10000. -/
def PwI (V x p v : Nat) : Prop := (p = 1000 ∧ v = V) ∨ (p = 100 ∧ v = V * 10 + x / 1000) ∨ (p = 10 ∧ v = V * 100 + x / 100) ∨ (p = 1 ∧ v = V * 1000 + x / 10) ∨ (p = 0 ∧ v = V * 10000 + x)

theorem PwI.step {V x p v : Nat} (hx : x < 10000) (h : PwI V x p v) (h0 : 0 < p) : PwI V x (p / 10) (v * 10 + x / p % 10) := by
  unfold PwI at *
  rcases h with ⟨rfl, rfl⟩ | ⟨rfl, rfl⟩ | ⟨rfl, rfl⟩ | ⟨rfl, rfl⟩ | ⟨rfl, rfl⟩ <;> omega

theorem PwI.le {V x p v : Nat} (hx : x < 10000) (h : PwI V x p v) : p ≤ 1000 ∧ v ≤ V * 10000 + x := by
  unfold PwI at *
  rcases h with ⟨rfl, rfl⟩ | ⟨rfl, rfl⟩ | ⟨rfl, rfl⟩ | ⟨rfl, rfl⟩ | ⟨rfl, rfl⟩ <;> omega

theorem PwI.done {V x v : Nat} (h : PwI V x 0 v) : v = x + BR * V := by
  unfold PwI at h
  show v = x + 10000 * V
  omega

theorem BR_pow (k : Nat) : BR ^ k = 10 ^ (4 * k) := by rw [Nat.pow_mul]

theorem GrB.form {w : World} {base : Nat} {v : Value} {l : List UInt8} (h : GrB w base v l) : ∃ p c, v = .slice p l.length c := by
  obtain ⟨p, c, e, _⟩ := own_form h
  exact ⟨p, c, e⟩

set_option maxRecDepth 100000 in
set_option maxHeartbeats 1000000 in
/-- One digit to the base 10000: four places. -/
theorem text_zero (neg : Bool) (p : Option Addr) (c : Nat) (xs : List Nat) (z : Int) (w : World) (hx : RIs w neg p 0 c xs z) :
    Calls Tryd.prog 19 #[.agg #[.bool neg, .slice p 0 c]] w fun e w' => e = .returned (.string ⟨(itoa z).toArray⟩) ∧ Below w.heap.size w w' := by
  have hb0 : Below w.heap.size w (w.alloc (.cells #[.bool neg, .slice p 0 c] 29)) := (Below.refl _ w).alloc (Nat.le_refl _) _
  have hxs : xs = [] := List.length_eq_zero_iff.1 hx.rd.1
  have hz : z = 0 := by rw [hx.val, hxs]; cases neg <;> rfl
  have hz0 : itoa 0 = [48] := by decide +kernel
  rw [hz, hz0]
  clear hz hxs hz0
  go_enter Tryd.func19, Tryd.ntmps19
  go_wp2_with fail
  go_ret
  exact ⟨rfl, hb0⟩

set_option maxRecDepth 100000 in
set_option maxHeartbeats 2000000 in
theorem text_pos (neg : Bool) (p : Option Addr) (n c : Nat) (xs : List Nat) (z : Int) (w : World) (hn : n ≤ 1000000000) (h0 : 0 < n) (hx : RIs w neg p n c xs z) :
    Calls Tryd.prog 19 #[.agg #[.bool neg, .slice p n c]] w fun e w' => e = .returned (.string ⟨(itoa z).toArray⟩) ∧ Below w.heap.size w w' := by
  have hb0 : Below w.heap.size w (w.alloc (.cells #[.bool neg, .slice p n c] 29)) := (Below.refl _ w).alloc (Nat.le_refl _) _
  have b0 := Boxed2.new w (.bool neg) (.slice p n c) 29
  have hrd := hx.rd.below hb0
  have HL := Lib.hid hrd.1
  have HX := Lib.hid hx
  have HR := Lib.hid hrd
  have HB := Lib.hid hb0
  have HB0 := Lib.hid b0
  have h0' : ((n : Int) == 0) = false := by simp; omega
  have hsz : w.heap.size + 1 ≤ (w.alloc (.cells #[.bool neg, .slice p n c] 29)).heap.size := by simp
  clear hx hrd hb0 b0
  go_enter Tryd.func19, Tryd.ntmps19
  go_wp2_with fail
  generalize hw1 : w.alloc (.cells #[.bool neg, .slice p n c] 29) = w1 at *
  go_loopw [3, 4] (fun v3 v4 wr => ∃ k : Nat, k ≤ n ∧ v4 = .int .i64 ((k : Int) - 1) ∧ GrB wr (w.heap.size + 1) v3 (decT (dv BR (xs.drop k))) ∧ w.heap.size + 1 ≤ wr.heap.size ∧ Below (w.heap.size + 1) w1 wr) (fun _ v4 _ => (Go.RowKit.intOf v4 + 1).toNat)
  case atStart => exact ⟨n, Nat.le_refl _, rfl, by rw [List.drop_of_length_le (by rw [HL.out]; exact Nat.le_refl _)]; exact GrB.nil _ _, hsz, Below.refl _ _⟩
  case round =>
    obtain ⟨k, hk, rfl, hgr, hsz2, hb⟩ := hrel
    have bx := HB0.out.below hb (by omega)
    have c0 := bx.cell0
    have c1 := bx.cell1
    cases k with
    | succ k =>
      have hkl : k < xs.length := by rw [HL.out]; omega
      have h1 : ((k + 1 : Nat) : Int) - 1 = (k : Int) := by omega
      obtain ⟨b, off, hp, hbb, hcell0⟩ := HR.out.2 k (by omega)
      subst hp
      have hcell : wr.cell? ⟨b, off + k, none⟩ = some (.int .i64 ((xs[k]?.getD 0 : Nat) : Int)) := (hb.cell (p := ⟨b, off + k, none⟩) (by rw [← hw1] at hbb; simpa using hbb)).trans hcell0
      have hd := hx_digit HX.out k
      have hdrop := dv_drop BR xs k hkl
      have hvb : dv BR (xs.drop k) < 10 ^ (4 * n) := by
        have := dv_lt (HX.out.cn.1.drop k)
        rw [BR_pow] at this
        refine Nat.lt_of_lt_of_le this (Nat.pow_le_pow_right (by decide) ?_)
        rw [List.length_drop, HL.out]; omega
      generalize xs[k]?.getD 0 = x at hd hdrop hcell
      generalize dv BR (xs.drop (k + 1)) = V at hgr hdrop
      have HD := Lib.hid hdrop
      have HVB := Lib.hid hvb
      rw [h1]
      clear hdrop hvb hcell0 h1
      go_wp2_with fail
      obtain ⟨wo, hwo⟩ : ∃ wo : World, wo = wr := ⟨_, rfl⟩
      go_loopw [3, 6] (fun v3 v6 wi => ∃ q v : Nat, v6 = .int .i64 (q : Int) ∧ Hid (PwI V x q v) ∧ GrB wi (w.heap.size + 1) v3 (decT v) ∧ w.heap.size + 1 ≤ wi.heap.size ∧ Below (w.heap.size + 1) w1 wi) (fun _ v6 _ => (Go.RowKit.intOf v6).toNat)
      case atStart => exact ⟨1000, V, rfl, .inl ⟨rfl, rfl⟩, hgr, hsz2, hb⟩
      case round =>
        clear hgr hsz2 hb bx c0 c1 hcell hwo
        obtain ⟨q, v, rfl, HP, hgr, hsz2, hb⟩ := hrel
        by_cases hq : 0 < q
        · have hle := HP.out.le hd
          have hst := HP.out.step hd hq
          have hcc : x / q % 10 < 10 := Nat.mod_lt _ (by decide)
          have hxq : x / q ≤ x := Nat.div_le_self _ _
          have hlen : (decT v).length ≤ 4 * n := by
            refine decT_len ?_ (by omega)
            have h1 := HVB.out
            have h2 := HD.out
            have h3 : BR * V = 10000 * V := rfl
            omega
          have hdiv : (x : Int) / (q : Int) = ((x / q : Nat) : Int) := by simp
          have hmod : ((x / q : Nat) : Int) % 10 = ((x / q % 10 : Nat) : Int) := by omega
          have hq9 : q / 10 < q := by omega
          have hdq : (q : Int) / 10 = ((q / 10 : Nat) : Int) := by omega
          have hq1000 : q ≤ 1000 := hle.1
          have HST := Lib.hid hst
          have hs := decT_step (v := v) hcc
          generalize x / q % 10 = cc at HST hcc hmod hs
          generalize x / q = xq at hdiv hmod hxq
          generalize q / 10 = q' at HST hq9 hdq
          obtain ⟨pp, cp, rfl⟩ := hgr.form
          have hpos := @decT_pos v
          have HS := Lib.hid hs
          have HPOS := Lib.hid hpos
          clear hst hle hs hpos
          by_cases h00 : cc = 0 ∧ v = 0
          · obtain ⟨rfl, rfl⟩ := h00
            have hl0 : (decT 0).length = 0 := rfl
            clear hlen
            go_wp2_with fail
            go_roundw
            case rel => exact ⟨q', 0, rfl, HST.out, hgr, hsz2, hb⟩
            case measure => simp [Go.RowKit.intOf]; omega
          · have hs2 := HS.out
            rw [if_neg h00] at hs2
            have HS2 := Lib.hid hs2
            have hd48 : (48 : Int) + (cc : Int) = ((48 + cc : Nat) : Int) := by omega
            have hd256 : 48 + cc < 256 := by omega
            generalize 48 + cc = d8 at HS2 hd48 hd256
            clear hs2 HS
            by_cases hc0 : cc = 0
            · have hl0 : 0 < (decT v).length := HPOS.out.2 (by omega)
              subst hc0
              obtain rfl : d8 = 48 := by omega
              clear h00 hd48
              go_wp2_with (at_builtin; refine pushB_law rfl _ _ rfl rfl hgr 48 (by decide) rfl (by omega) hsz2 ?_; intro v' w' hgr' hb')
              go_roundw
              case rel => first | exact ⟨q', v * 10 + 0, rfl, HST.out, by rw [HS2.out]; exact hgr', Nat.le_trans hsz2 hb'.size, hb.trans hb'⟩ | ((repeat apply Exists.intro); exact ⟨⟨q', v * 10 + 0, rfl, HST.out, by rw [HS2.out]; exact hgr', Nat.le_trans hsz2 hb'.size, hb.trans hb'⟩, rfl⟩)
              case measure => simp [Go.RowKit.intOf]; omega
            · have hcpos : (0 : Int) < (cc : Int) := by omega
              clear h00 hc0
              go_wp2_with (at_builtin; refine pushB_law rfl _ _ rfl rfl hgr d8 hd256 rfl (by omega) hsz2 ?_; intro v' w' hgr' hb')
              go_roundw
              case rel => first | exact ⟨q', v * 10 + cc, rfl, HST.out, by rw [HS2.out]; exact hgr', Nat.le_trans hsz2 hb'.size, hb.trans hb'⟩ | ((repeat apply Exists.intro); exact ⟨⟨q', v * 10 + cc, rfl, HST.out, by rw [HS2.out]; exact hgr', Nat.le_trans hsz2 hb'.size, hb.trans hb'⟩, rfl⟩)
              case measure => simp [Go.RowKit.intOf]; omega
        · obtain rfl : q = 0 := by omega
          have hv := HP.out.done
          rw [← HD.out] at hv
          subst hv
          go_wp2_with fail
          go_roundw
          case rel => exact ⟨k, by omega, rfl, hgr, hsz2, hb⟩
          case measure => simp [Go.RowKit.intOf] <;> omega
    | zero =>
      rw [List.drop_zero] at hgr
      have hpos : 0 < dv BR xs := HX.out.cn.pos (by decide) (fun e => by have := HR.out.1; rw [e] at this; simp at this; omega)
      have hne : decT (dv BR xs) ≠ [] := fun e => by have := (decT_pos (v := dv BR xs)).2 hpos; rw [e] at this; simp at this
      obtain ⟨pp, cp, rfl⟩ := hgr.form
      have hcv := text_convert hgr hne
      have hm1 : ((0 : Nat) : Int) - 1 = -1 := rfl
      have hT : decT (dv BR xs) = decDigits (dv BR xs) := by unfold decT; rw [if_neg (by omega)]
      have hz : itoa z = (if neg then [45] else []) ++ decDigits (dv BR xs) := by rw [HX.out.val, itoa_sv neg _ (fun _ => hpos)]
      rw [← hT] at hz
      have HZ := Lib.hid hz
      have hbw := HB.out.trans (hb.mono (by omega))
      have hkl : (decT (dv BR xs)).length ≤ 4 * n := by
        refine decT_len ?_ (by omega)
        have := dv_lt HX.out.cn.1
        rw [BR_pow, HL.out] at this
        exact this
      generalize decT (dv BR xs) = tx at *
      clear hz hT hne hpos
      obtain ⟨kk, hkk⟩ : ∃ kk, tx.length = kk := ⟨_, rfl⟩
      rw [hkk] at hcv hkl
      have hkb : ¬ 9223372036854775807 < 1 + kk := by omega
      cases neg
      · go_wp2_with fail
        go_ret
        exact ⟨ret_val (by rw [HZ.out]; rfl), hbw⟩
      · go_wp2_with fail
        go_ret
        exact ⟨ret_val (by rw [HZ.out]; exact congrArg Value.string (by apply ByteArray.ext; simp)), hbw⟩

theorem text_any (neg : Bool) (p : Option Addr) (n c : Nat) (xs : List Nat) (z : Int) (w : World) (hn : n ≤ 1000000000) (hx : RIs w neg p n c xs z) :
    Calls Tryd.prog 19 #[.agg #[.bool neg, .slice p n c]] w fun e w' => e = .returned (.string ⟨(itoa z).toArray⟩) ∧ Below w.heap.size w w' := by
  by_cases h : n = 0
  · subst h; exact text_zero neg p c xs z w hx
  · exact text_pos neg p n c xs z w hn (by omega) hx

end Go.Proofs.YtapfkinpdinbgaaDoor
