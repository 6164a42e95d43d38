/-
  A number is read from its string; How many digits a number has; strconv.FormatUint at base 10; A number divided by one word.
-/
import Derived.Lib.ItoaMem
import Derived.Lib.ItoaLen
import Derived.Test.YtimcbmgmngkagaaGreatDoorShelf
import Derived.RangeFuncCalls
import Derived.StillTailTactics
import Derived.TacticsInMore
import Derived.OrdersIn
import Derived.Deep.RegionWith
import Derived.Test.YtimcbmgmngkagaaGreatDoorK1
import Derived.Test.YtimcbmgmngkagaaGreatDoorK2
namespace Go.Proofs.YtimcbmgmngkagaaGreatDoor
open Go.RowKit

/-- What holds when r digits are still to come: the group of the next one is (r - 1) / 9. -/
def ReadI (ds : List UInt8) (ws : List Nat) (k : Nat) : Prop :=
  ws.length = (ds.length + 8) / 9 ∧ Dg BW ws ∧ k ≤ ds.length ∧
  (k = ds.length → dv BW ws = decV ds) ∧
  (k < ds.length → decV (ds.take k) = ws[(ds.length - k - 1) / 9]?.getD 0 + 10 ^ (9 * ((ds.length - k - 1) / 9 + 1) - (ds.length - k)) * dv BW (ws.drop ((ds.length - k - 1) / 9 + 1)) ∧
    ws[(ds.length - k - 1) / 9]?.getD 0 < 10 ^ (9 * ((ds.length - k - 1) / 9 + 1) - (ds.length - k)) ∧ ∀ t, t < (ds.length - k - 1) / 9 → ws[t]?.getD 0 = 0)

theorem ReadI.start (ds : List UInt8) (h : 0 < ds.length) : ReadI ds (List.replicate ((ds.length + 8) / 9) 0) 0 := by
  refine ⟨by simp, Dg.replicate (by decide) _, Nat.zero_le _, fun e => by omega, fun _ => ⟨?_, ?_, fun t _ => ?_⟩⟩
  · rw [List.drop_of_length_le (by simp; omega)]
    simp only [List.take_zero, decV, List.foldl_nil, dv, Nat.mul_zero, Nat.add_zero]
    rw [List.getElem?_replicate]; split <;> rfl
  · rw [List.getElem?_replicate]
    have : (if (ds.length - 0 - 1) / 9 < (ds.length + 8) / 9 then some 0 else none).getD 0 = 0 := by split <;> rfl
    rw [this]; exact Nat.pow_pos (by decide)
  · rw [List.getElem?_replicate]; split <;> rfl

theorem dv_zeros_below {ws : List Nat} {g : Nat} (h : ∀ t, t < g → ws[t]?.getD 0 = 0) (hg : g ≤ ws.length) : dv BW ws = BW ^ g * dv BW (ws.drop g) := by
  rw [dv_take_drop BW ws g hg]
  have : ws.take g = List.replicate g 0 := by
    apply List.ext_getElem
    · simp [hg]
    · intro i h1 h2
      simp at h1
      have hi : i < ws.length := by omega
      have := h i (by omega)
      rw [List.getElem?_eq_getElem hi] at this
      simpa using this
  rw [this, dv_replicate]; simp

theorem ReadI.step {ds : List UInt8} {ws : List Nat} {k d : Nat} (h : ReadI ds ws k) (hk : k < ds.length) (hd : d < 10) (hdk : (ds[k]'hk).toNat - 48 = d) :
    ws[(ds.length - k - 1) / 9]?.getD 0 < 100000000 ∧ ReadI ds (ws.set ((ds.length - k - 1) / 9) (ws[(ds.length - k - 1) / 9]?.getD 0 * 10 + d)) (k + 1) := by
  obtain ⟨h1, h2, h3, _, h5⟩ := h
  obtain ⟨i1, i2, i3⟩ := h5 hk
  have htk : decV (ds.take (k + 1)) = decV (ds.take k) * 10 + d := by
    rw [List.take_succ_eq_append_getElem hk, decV_snoc, hdk]
  generalize hg : (ds.length - k - 1) / 9 = g at *
  have hgl : g < ws.length := by omega
  generalize hx : ws[g]?.getD 0 = x at *
  generalize hc : 9 * (g + 1) - (ds.length - k) = c at *
  have hc9 : c + 1 ≤ 9 := by omega
  have hp : 10 ^ (c + 1) ≤ 10 ^ 9 := Nat.pow_le_pow_right (by decide) hc9
  rw [Nat.pow_succ] at hp
  have hsmall : x * 10 + d < 10 ^ (c + 1) := by rw [Nat.pow_succ]; omega
  have hp8 : 10 ^ c ≤ 10 ^ 8 := Nat.pow_le_pow_right (by decide) (by omega)
  refine ⟨by omega, by simp [h1], h2.set _ (by show _ < 1000000000; rw [Nat.pow_succ] at hsmall; omega), by omega, ?_, ?_⟩
  · intro he
    have hg0 : g = 0 := by omega
    have hc8 : c = 8 := by omega
    subst hg0 hc8
    have e1 : ds.take (k + 1) = ds := List.take_of_length_le (by omega)
    rw [e1] at htk
    have e2 := dv_zeros_below (ws := ws.set 0 (x * 10 + d)) (g := 0) (fun t ht => by omega) (by omega)
    rw [e2, List.drop_zero]
    have e3 : ws.set 0 (x * 10 + d) = (x * 10 + d) :: ws.drop 1 := by
      have := drop_set_at' ws 0 (x * 10 + d) hgl
      simpa using this
    rw [e3, dv_cons, htk, i1]
    have : (10 : Nat) ^ 8 = 100000000 := by decide
    simp only [Nat.zero_add, Nat.pow_zero, Nat.one_mul, this]
    show _ + 1000000000 * _ = _
    omega
  · intro hk1
    rw [htk, i1]
    by_cases hsame : (ds.length - (k + 1) - 1) / 9 = g
    · rw [hsame]
      have hc1 : 9 * (g + 1) - (ds.length - (k + 1)) = c + 1 := by omega
      rw [hc1, List.getElem?_set_self hgl, List.drop_set_of_lt (by omega)]
      refine ⟨?_, hsmall, fun t ht => ?_⟩
      · simp only [Option.getD_some, Nat.pow_succ]
        generalize dv BW (ws.drop (g + 1)) = H
        generalize 10 ^ c = e
        grind
      · rw [set_get_other _ _ _ _ (by omega)]; exact i3 t ht
    · have hgp : (ds.length - (k + 1) - 1) / 9 = g - 1 := by omega
      have hg1 : 1 ≤ g := by omega
      have hc8 : c = 8 := by omega
      have hc0 : 9 * (g - 1 + 1) - (ds.length - (k + 1)) = 0 := by omega
      have e1 : g - 1 + 1 = g := by omega
      rw [hgp, hc0, e1, set_get_other _ _ _ _ (by omega), i3 (g - 1) (by omega)]
      refine ⟨?_, by decide, fun t ht => ?_⟩
      · rw [drop_set_at' _ _ _ hgl, dv_cons, hc8]
        have : (10 : Nat) ^ 8 = 100000000 := by decide
        simp only [this, Nat.pow_zero, Nat.one_mul, Nat.zero_add]
        show _ = _ + 1000000000 * _
        omega
      · rw [set_get_other _ _ _ _ (by omega)]; exact i3 t (by omega)

theorem ReadI.finish {ds : List UInt8} {ws : List Nat} (h : ReadI ds ws ds.length) : ws.length = (ds.length + 8) / 9 ∧ Dg BW ws ∧ dv BW ws = decV ds := ⟨h.1, h.2.1, h.2.2.2.1 rfl⟩

theorem Own.iterAt {k : IntKind} {e : TypeId} {w : World} {B : Nat} {ns : List Nat} (h : Own k e w B ns) (b : Nat) (hb : B ≠ b) (s : ByteArray) (pos : Nat) : Own k e (w.iterAt b s pos) B ns := by
  unfold Own at h ⊢; rw [Lib.iterAt_other _ _ _ _ _ hb]; exact h

theorem neg_iff (l : List UInt8) : decide ((digitsOf l).length < l.length) = isNeg l := by
  cases l with
  | nil => rfl
  | cons c t =>
    rw [digitsOf.eq_2]
    by_cases h : c = 45
    · subst h; simp [isNeg]
    · simp [h, isNeg]

set_option maxHeartbeats 1000000 in
theorem read_any (s : ByteArray) (w : World) (hs : s.size ≤ maxLen) (hnum : numB s.data.toList = true) :
    Calls Tryz.prog 106 #[.string s] w (NumV w (strV s.data.toList) 223) := by
  unfold maxLen at hs
  have hl : (digitsOf s.data.toList).length ≤ s.size := digitsOf_le _
  have hneg := neg_iff s.data.toList
  have hsv : strV s.data.toList = sv (isNeg s.data.toList) (decV (digitsOf s.data.toList)) := rfl
  obtain ⟨ds, hds⟩ : ∃ ds, digitsOf s.data.toList = ds := ⟨_, rfl⟩
  obtain ⟨ng, hng⟩ : ∃ ng, isNeg s.data.toList = ng := ⟨_, rfl⟩
  have hall : 0 < ds.length ∧ ds.length ≤ 2000 ∧ ds.all isDg = true := by
    unfold numB plainB at hnum
    rw [hds] at hnum
    simp only [Bool.and_eq_true, decide_eq_true_eq, Bool.not_eq_true'] at hnum
    refine ⟨?_, hnum.2, hnum.1.1.2⟩
    have := hnum.1.1.1
    cases ds with
    | nil => simp at this
    | cons c t => simp
  rw [hds, hng] at hsv
  rw [hds] at hl
  rw [hds, hng] at hneg
  have hsz : s.data.toList.length = s.size := by rw [← Lib.size_eq]
  rw [hsz] at hneg
  obtain ⟨a0, a1, a2⟩ := hall
  have HD := Lib.hid hds
  have HN := Lib.hid hneg
  have HS := Lib.hid hsv
  have HA := Lib.hid a2
  clear hds hneg hsv hng hsz hnum a2
  have hmk : ∀ w, (Instr.makeSlice 76 (.int .i64 (((ds.length : Int) + 9 - 1) / 9)) (.int .i64 (((ds.length : Int) + 9 - 1) / 9))).run Tryz.prog w = .ok (.slice (some ⟨w.heap.size, 0, none⟩) ((ds.length + 8) / 9) ((ds.length + 8) / 9)) (w.alloc (.cells (Go.madeCells #[.int .u64 0] ((ds.length + 8) / 9)) 117)) := fun w => by
    have e : ((ds.length : Int) + 9 - 1) / 9 = (((ds.length + 8) / 9 : Nat) : Int) := by omega
    rw [e]; exact mkWords _ (by omega) w
  go_enter Tryz.func106, Tryz.ntmps106
  go_wp2_with (go_at_call 123; refine (trimMinus _ _).mono ?_; rintro e w' ⟨rfl, rfl⟩; rw [HD.out])
  have hB0 : Below w.heap.size w (((w.alloc (.cells #[.bool false, .slice none 0 0] 78)).alloc (.cells (Go.madeCells #[.int .u64 0] ((ds.length + 8) / 9)) 117)).iter ⟨ds.toArray⟩ 0) :=
    (((Below.refl _ w).alloc (Nat.le_refl _) _).alloc (by simp) _).alloc (by simp <;> omega) _
  have c0 := Own.new .u64 117 (w.alloc (.cells #[.bool false, .slice none 0 0] 78)) ((ds.length + 8) / 9)
  simp only [World.size_alloc] at c0
  have r0 : (((w.alloc (.cells #[.bool false, .slice none 0 0] 78)).alloc (.cells (Go.madeCells #[.int .u64 0] ((ds.length + 8) / 9)) 117)).iter ⟨ds.toArray⟩ 0).heap[w.heap.size]? = some (.cells #[.bool false, .slice none 0 0] 78 (0, 0)) :=
    (Below.heap_alloc _ _ _ (by simp <;> omega)).trans ((Below.heap_alloc _ _ _ (by simp)).trans (World.alloc_heap_new w _))
  have r2 : (((w.alloc (.cells #[.bool false, .slice none 0 0] 78)).alloc (.cells (Go.madeCells #[.int .u64 0] ((ds.length + 8) / 9)) 117)).iter ⟨ds.toArray⟩ 0).heap[w.heap.size + 1 + 1]? = some (.stringIter ⟨ds.toArray⟩ 0) := by
    have := World.alloc_heap_new ((w.alloc (.cells #[.bool false, .slice none 0 0] 78)).alloc (.cells (Go.madeCells #[.int .u64 0] ((ds.length + 8) / 9)) 117)) (.stringIter ⟨ds.toArray⟩ 0)
    rwa [World.size_alloc, World.size_alloc] at this
  go_loopw [5] (fun _ wr => ∃ (k : Nat) (ws : List Nat), k ≤ ds.length ∧ wr.heap[w.heap.size]? = some (.cells #[.bool false, .slice none 0 0] 78 (0, 0)) ∧ wr.heap[w.heap.size + 1 + 1]? = some (.stringIter ⟨ds.toArray⟩ k)
      ∧ Hid (ReadI ds ws k) ∧ Own .u64 117 wr (w.heap.size + 1) ws ∧ Below w.heap.size w wr) (fun _ wr => ds.length - wr.iterPos (w.heap.size + 1 + 1))
  case atStart => exact ⟨0, _, Nat.zero_le _, r0, r2, ReadI.start ds a0, c0.below ((Below.refl _ _).alloc (Nat.le_refl _) _) (by simp), hB0⟩
  case round =>
    obtain ⟨k, ws, hk, hr, hit, hinv, hown, hB⟩ := hrel
    have hip := iterPos_of hit
    by_cases hlt : k < ds.length
    · have hsz : k < (⟨ds.toArray⟩ : ByteArray).size := by show k < ds.toArray.size; simpa using hlt
      have hb : (⟨ds.toArray⟩ : ByteArray)[k]'hsz = ds[k] := rfl
      obtain ⟨d1, d2⟩ := isDg_of (List.all_eq_true.1 HA.out _ (List.getElem_mem hlt))
      have hnext := fun ty => Lib.run_next_ascii_at (P := Tryz.prog) wr (w.heap.size + 1 + 1) ⟨ds.toArray⟩ k ty hit hsz (by show ds[k].toNat < 128; omega)
      rw [hb] at hnext
      obtain ⟨d, hd⟩ : ∃ d, ds[k].toNat = d + 48 := ⟨ds[k].toNat - 48, by omega⟩
      have hstep := ReadI.step (d := d) hinv.out hlt (by omega) (by omega)
      have hd10 : d < 10 := by omega
      rw [hd] at hnext
      have hgl : (ds.length - k - 1) / 9 < ws.length := by rw [hinv.out.1]; omega
      obtain ⟨g, hg⟩ : ∃ g, (ds.length - k - 1) / 9 = g := ⟨_, rfl⟩
      have hgi : ((ds.length : Int) - 1 - (k : Int)) / 9 = (g : Int) := by omega
      rw [hg] at hstep hgl
      obtain ⟨x, hx⟩ : ∃ x, ws[g]?.getD 0 = x := ⟨_, rfl⟩
      have hcell := (hown.iterAt (w.heap.size + 1 + 1) (by omega) ⟨ds.toArray⟩ (k + 1)).cell g hgl
      have hfz := (hown.iterAt (w.heap.size + 1 + 1) (by omega) ⟨ds.toArray⟩ (k + 1)).frozen g
      have hset := (hown.iterAt (w.heap.size + 1 + 1) (by omega) ⟨ds.toArray⟩ (k + 1)).set g (x * 10 + d)
      rw [hx] at hstep hcell
      have hwl : ws.length = (ds.length + 8) / 9 := hinv.out.1
      have hgn : g < (ds.length + 8) / 9 := by omega
      have hit2 := Lib.iterAt_heap wr (w.heap.size + 1 + 1) ⟨ds.toArray⟩ k (k + 1) hit
      have hr2 := (Lib.iterAt_other wr (w.heap.size + 1 + 1) w.heap.size ⟨ds.toArray⟩ (k + 1) (by omega)).trans hr
      have hB2 := Lib.below_iterAt hB (k := w.heap.size + 1 + 1) (by omega) ⟨ds.toArray⟩ (k + 1)
      have hx8 := hstep.1
      have HST := Lib.hid hstep.2
      have hcast : ((d + 48 : Nat) : Int) = (d : Int) + 48 := by omega
      have HIP := Lib.hid hip
      clear hstep hd hg hx hwl hgl hb d1 d2 hip hinv
      generalize wr.iterAt (w.heap.size + 1 + 1) ⟨ds.toArray⟩ (k + 1) = W2 at hnext hcell hfz hset hit2 hr2 hB2
      go_wp2
      go_roundw
      case rel =>
        have e1 : (x : Int) * 10 + (d : Int) = ((x * 10 + d : Nat) : Int) := by omega
        rw [e1]
        exact ⟨k + 1, _, by omega, (Below.heap_setCell _ _ _ _ (by simp)).trans hr2, (Below.heap_setCell _ _ _ _ (by simp)).trans hit2, HST.out, hset, hB2.setCell (by simp) _⟩
      case measure =>
        rw [HIP.out, iterPos_of ((Below.heap_setCell W2 ⟨w.heap.size + 1, g, none⟩ (.int .u64 ((x : Int) * 10 + (d : Int))) (w.heap.size + 1 + 1) (by simp)).trans hit2)]
        omega
    · obtain rfl : k = ds.length := by omega
      have hsz : ¬ ds.length < (⟨ds.toArray⟩ : ByteArray).size := by show ¬ ds.length < ds.toArray.size; simp
      have hnext := fun ty => Lib.run_next_end_at (P := Tryz.prog) wr (w.heap.size + 1 + 1) ⟨ds.toArray⟩ ds.length ty hit hsz
      obtain ⟨f1, f2, f3⟩ := hinv.out.finish
      have HF := Lib.hid (And.intro f1 (And.intro f2 f3))
      have hrd := hown.rd f1
      have q0 : wr.cell? ⟨w.heap.size, 0, none⟩ = some (.bool false) := by simp [World.cell?, hr]
      have q1 : wr.cell? ⟨w.heap.size, 1, none⟩ = some (.slice none 0 0) := by simp [World.cell?, hr]
      have q2 : wr.frozen? ⟨w.heap.size, 0, none⟩ = false := by simp [World.frozen?, hr]
      have q3 : wr.frozen? ⟨w.heap.size, 1, none⟩ = false := by simp [World.frozen?, hr]
      have hlt0 : w.heap.size < wr.heap.size := (Array.getElem?_eq_some_iff.1 hr).1
      have hdec : decide (ds.length < s.size) = ng := HN.out
      clear f1 f2 f3 hr
      go_wp2_with (first
        | (go_at_call 147; refine (trimmed_any _ _ _ ws _ (by unfold maxLen; omega) (Nat.le_refl _) hrd).mono ?_; rintro e w' ⟨rfl, rfl⟩)
        | (go_at_call 110; refine (signed_any _ _ _ _ _).mono ?_; rintro e w2 ⟨rfl, hb2⟩; obtain ⟨hc2, hf2⟩ := bcell hb2))
      have p0 : w2.cell? ⟨w.heap.size, 0, none⟩ = some (.bool false) := by rw [hc2 _ _ hlt0]; exact q0
      have p1 : w2.cell? ⟨w.heap.size, 1, none⟩ = some (.slice none 0 0) := by rw [hc2 _ _ hlt0]; exact q1
      obtain ⟨f1, f2, f3⟩ := HF.out
      obtain ⟨t0, t1, _⟩ := two_set (.bool (ng && decide (0 < trimLen ws ((ds.length + 8) / 9)))) (.slice (some ⟨w.heap.size + 1, 0, none⟩) (trimLen ws ((ds.length + 8) / 9)) (trimLen ws ((ds.length + 8) / 9))) p0 p1
      have hrz : Rd .u64 w2 (some ⟨w.heap.size + 1, 0, none⟩) (trimLen ws ((ds.length + 8) / 9)) (trimZ ws) := by
        unfold trimZ; rw [f1]; exact (hrd.take _ (trimLen_le _ _)).below hb2
      refine bodyPost_ret (v := .agg #[.bool (ng && decide (0 < trimLen ws ((ds.length + 8) / 9))), .slice (some ⟨w.heap.size + 1, 0, none⟩) (trimLen ws ((ds.length + 8) / 9)) (trimLen ws ((ds.length + 8) / 9))])
        (by simp [results, Tryz.results106, go_sem, t0, t1]) rfl ⟨_, _, _, _, trimZ ws, rfl, ?_, ?_⟩
      · refine ⟨hrz.two_set _ _ p0 p1, Nat.le_refl _, ?_, trimZ_cn f2, ?_, ?_⟩
        · have := trimLen_le ws ((ds.length + 8) / 9); omega
        · simp
        · have hsvz := sv_and ng (trimZ ws) (trimZ_cn f2)
          rw [hrz.1] at hsvz
          rw [hsvz, dv_trimZ, f3]; exact HS.out
      · exact ((hB.trans (hb2.mono (by omega))).setCell (by simp) _).setCell (by simp) _

end Go.Proofs.YtimcbmgmngkagaaGreatDoor

namespace Go.Proofs.YtimcbmgmngkagaaGreatDoor
open Go.Lib

theorem nDigits_lower (u : Nat) (h : 1 ≤ u) : 10 ^ (nDigits u - 1) ≤ u := by
  induction u using Nat.strongRecOn with
  | ind u ih =>
    by_cases h1 : u < 10
    · rw [nDigits_small h1]; simpa using h
    · rw [nDigits_big h1]
      have h2 := ih (u / 10) (by omega) (by omega)
      have h3 := nDigits_pos (u / 10)
      have e : nDigits (u / 10) + 1 - 1 = (nDigits (u / 10) - 1) + 1 := by omega
      rw [e, Nat.pow_succ]; omega

theorem nDigits_le {u k : Nat} (hk : 1 ≤ k) (h : u < 10 ^ k) : nDigits u ≤ k := by
  rcases Nat.lt_or_ge k (nDigits u) with h1 | h1
  · by_cases h0 : 1 ≤ u
    · have h2 := nDigits_lower u h0
      have h3 := Nat.pow_le_pow_right (n := 10) (by decide) (show k ≤ nDigits u - 1 by omega)
      omega
    · have : u = 0 := by omega
      subst this
      rw [nDigits_small (by decide)] at h1; omega
  · exact h1

/-- How many digits; 0 has none here. -/
def nd0 (u : Nat) : Nat := if u = 0 then 0 else nDigits u

theorem nd0_step {u : Nat} (h : 0 < u) : nd0 u = nd0 (u / 10) + 1 := by
  unfold nd0
  rw [if_neg (by omega)]
  by_cases h1 : u < 10
  · rw [nDigits_small h1, if_pos (by omega)]
  · rw [nDigits_big h1, if_neg (by omega)]

theorem pow_words (k : Nat) : BW ^ k = 10 ^ (9 * k) := by
  rw [Nat.pow_mul]

/-- The digits of words: nine for each but the highest. -/
theorem nDigits_dv {lo : List Nat} {top : Nat} (hlo : Dg BW lo) (h0 : 0 < top) : nDigits (dv BW (lo ++ [top])) = 9 * lo.length + nDigits top := by
  have h1 := dv_lt hlo
  rw [pow_words] at h1
  rw [dv_snoc, pow_words]
  have h2 := nDigits_lower top h0
  have h3 := lt_pow_nDigits top
  have h4 := nDigits_pos top
  have e : 9 * lo.length + nDigits top = (9 * lo.length + (nDigits top - 1)) + 1 := by omega
  rw [e]
  apply nDigits_unique
  · rw [Nat.pow_add]
    have := Nat.mul_le_mul_left (10 ^ (9 * lo.length)) h2
    omega
  · have e2 : 9 * lo.length + (nDigits top - 1) + 1 = 9 * lo.length + nDigits top := by omega
    rw [e2, Nat.pow_add]
    have := Nat.mul_le_mul_left (10 ^ (9 * lo.length)) (show top + 1 ≤ 10 ^ nDigits top from h3)
    rw [Nat.mul_add] at this
    omega

theorem decDigits_snoc {n d : Nat} (hn : 0 < n) (hd : d < 10) : decDigits (n * 10 + d) = decDigits n ++ [UInt8.ofNat (48 + d)] := by
  rw [decDigits.eq_1 (n * 10 + d), dif_neg (by omega)]
  have e1 : (n * 10 + d) / 10 = n := by omega
  have e2 : (n * 10 + d) % 10 = d := by omega
  rw [e1, e2]

/-- k digits, zeros in front. -/
def padK : Nat → Nat → List UInt8
  | 0, _ => []
  | k + 1, lo => padK k (lo / 10) ++ [UInt8.ofNat (48 + lo % 10)]

theorem decDigits_join (k : Nat) : ∀ (hi lo : Nat), 0 < hi → lo < 10 ^ k → decDigits (hi * 10 ^ k + lo) = decDigits hi ++ padK k lo := by
  induction k with
  | zero => intro hi lo _ hl; have : lo = 0 := by simpa using hl
            subst this; simp [padK]
  | succ k ih =>
    intro hi lo hh hl
    rw [Nat.pow_succ] at hl ⊢
    have e : hi * (10 ^ k * 10) + lo = (hi * 10 ^ k + lo / 10) * 10 + lo % 10 := by
      have := Nat.div_add_mod lo 10
      rw [← Nat.mul_assoc, Nat.add_mul]; omega
    have hp : 0 < hi * 10 ^ k := Nat.mul_pos hh (Nat.pow_pos (by decide))
    rw [e, decDigits_snoc (by omega) (Nat.mod_lt _ (by decide)), ih hi (lo / 10) hh (by omega), padK, List.append_assoc]

theorem padK_zero (k : Nat) : padK k 0 = List.replicate k 48 := by
  induction k with
  | zero => rfl
  | succ k ih =>
    rw [padK, Nat.zero_div, ih, List.replicate_succ']; rfl

theorem padK_says (k : Nat) : ∀ lo, 1 ≤ k → lo < 10 ^ k → padK k lo = List.replicate (k - nDigits lo) 48 ++ decDigits lo := by
  induction k with
  | zero => intro lo h; omega
  | succ k ih =>
    intro lo _ hl
    by_cases h1 : lo < 10
    · have e : lo / 10 = 0 := by omega
      have e2 : lo % 10 = lo := by omega
      rw [padK, e, e2, padK_zero, decDigits_one h1, nDigits_small h1]
      rfl
    · rw [Nat.pow_succ] at hl
      have hk : 1 ≤ k := by
        rcases Nat.eq_zero_or_pos k with h | h
        · subst h; omega
        · exact h
      have e := Nat.div_add_mod lo 10
      have e3 := decDigits_snoc (n := lo / 10) (d := lo % 10) (by omega) (Nat.mod_lt _ (by decide))
      have e4 : lo / 10 * 10 + lo % 10 = lo := by omega
      rw [e4] at e3
      rw [padK, ih (lo / 10) hk (by omega), nDigits_big h1, e3, List.append_assoc]
      have : k + 1 - (nDigits (lo / 10) + 1) = k - nDigits (lo / 10) := by omega
      rw [this]

/-- A word behind higher ones. -/
theorem decDigits_word {hi lo : Nat} (hh : 0 < hi) (hl : lo < BW) : decDigits (lo + BW * hi) = decDigits hi ++ (List.replicate (9 - nDigits lo) 48 ++ decDigits lo) := by
  rw [← padK_says 9 lo (by decide) hl, ← decDigits_join 9 hi lo hh hl]
  have : BW = 10 ^ 9 := by decide
  rw [Nat.add_comm, Nat.mul_comm, this]

end Go.Proofs.YtimcbmgmngkagaaGreatDoor

namespace Go.Proofs.YtimcbmgmngkagaaGreatDoor
open Go.RowKit

set_option maxHeartbeats 400000 in
theorem isZero_any (neg : Bool) (p : Option Addr) (n c : Nat) (w : World) (hn : n ≤ maxLen) :
    Calls Tryz.prog 67 #[.agg #[.bool neg, .slice p n c]] w fun e w' => e = .returned (.bool (n == 0)) ∧ Below w.heap.size w w' := by
  unfold maxLen at hn
  by_cases h : n = 0
  · subst h
    go_enter Tryz.func67, Tryz.ntmps67
    go_wp2
    go_ret
    exact ⟨rfl, (Below.refl _ _).alloc (Nat.le_refl _) _⟩
  · have h1 : ((n : Int) == 0) = false := by simp; omega
    have h2 : (n == 0) = false := by simpa using h
    have H2 := Lib.hid h2
    clear h2
    go_enter Tryz.func67, Tryz.ntmps67
    go_wp2
    go_ret
    exact ⟨ret_val (congrArg Value.bool H2.out.symm), (Below.refl _ _).alloc (Nat.le_refl _) _⟩

set_option maxHeartbeats 1000000 in
theorem digits_any (neg : Bool) (p : Option Addr) (n c : Nat) (xs : List Nat) (w : World) (hn : n ≤ 1000000000) (hx : Rd .u64 w p n xs) (gx : Cn BW xs) :
    Calls Tryz.prog 111 #[.agg #[.bool neg, .slice p n c]] w fun e w' => e = .returned (.int .i64 (nd0 (dv BW xs) : Nat)) ∧ Below w.heap.size w w' := by
  have hb0 : Below w.heap.size w (w.alloc (.cells #[.bool neg, .slice p n c] 78)) := (Below.refl _ w).alloc (Nat.le_refl _) _
  have hx1 := hx.below hb0
  have y0 : w.heap.size < (w.alloc (.cells #[.bool neg, .slice p n c] 78)).heap.size := by simp
  by_cases h : n = 0
  · have hx0 : xs = [] := List.length_eq_zero_iff.1 (by rw [hx.1]; exact h)
    have hfin : nd0 (dv BW xs) = 0 := by rw [hx0]; rfl
    have HF := Lib.hid hfin
    subst h
    clear hfin hx0
    go_enter Tryz.func111, Tryz.ntmps111
    go_wp2_with (go_at_call 67; refine (isZero_any _ _ _ _ _ (by decide)).mono ?_; rintro e w1 ⟨rfl, hb1⟩)
    go_ret
    exact ⟨ret_int (by rw [HF.out]; rfl), hb0.trans (hb1.mono (by simp))⟩
  · have h2 : (n == 0) = false := by simpa using h
    have hne : xs ≠ [] := by intro e; apply h; rw [← hx.1, e]; rfl
    obtain ⟨b, off, rfl, hb, hcell0⟩ := hx1.2 (n - 1) (by omega)
    obtain ⟨t, ht⟩ : ∃ t, xs[n - 1]?.getD 0 = t := ⟨_, rfl⟩
    have hsplit : xs = xs.take (n - 1) ++ [t] := by
      rw [← ht, ← take_snoc xs (n - 1) (by rw [hx.1]; omega), List.take_of_length_le (by rw [hx.1]; omega)]
    have ht0 : 0 < t := by
      have := gx.2
      rw [hsplit] at this
      simp [Tp] at this
      omega
    have htB : t < 1000000000 := by rw [← ht]; exact gx.1.get (by decide) _
    have hlen : (xs.take (n - 1)).length = n - 1 := by rw [List.length_take, hx.1]; omega
    have hfin : nd0 (dv BW xs) = 9 * (n - 1) + nd0 t := by
      have h1 := nDigits_dv (lo := xs.take (n - 1)) (top := t) (gx.1.take _) ht0
      rw [← hsplit, hlen] at h1
      have h2 : dv BW xs ≠ 0 := by have := gx.pos (by decide) hne; omega
      unfold nd0
      rw [if_neg h2, if_neg (by omega), h1]
    have HF := Lib.hid hfin
    have hpos : 0 < n := by omega
    rw [ht] at hcell0
    clear ht hsplit hlen hfin hne
    go_enter Tryz.func111, Tryz.ntmps111
    go_wp2_with (go_at_call 67; refine (isZero_any _ _ _ _ _ (by unfold maxLen; omega)).mono ?_; rintro e w1 ⟨rfl, hb1⟩; obtain ⟨hc1, hf1⟩ := bcell hb1; have hcell := (hc1 b (off + (n - 1)) hb).trans hcell0)
    have hbT := hb0.trans (hb1.mono (by simp))
    go_loop [3, 4] (fun m u => ∃ k r : Nat, r < 1000000000 ∧ k ≤ 9000000009 ∧ m = .int .i64 k ∧ u = .int .u64 r ∧ Hid (k + nd0 r = 9 * (n - 1) + nd0 t)) (fun _ u => (intOf u).toNat)
    case atStart => exact ⟨9 * (n - 1), t, htB, by omega, by go_num, rfl, rfl⟩
    case round =>
      obtain ⟨k, r, hr, hk, rfl, rfl, hs⟩ := hrel
      by_cases h0 : 0 < r
      · have h1 : Hid (k + 1 + nd0 (r / 10) = 9 * (n - 1) + nd0 t) := by
          show _ = _
          have := hs.out
          rw [nd0_step h0] at this; omega
        have hk9 : k ≤ 9000000008 := by
          have := hs.out
          have h2 : nd0 r ≥ 1 := by rw [nd0_step h0]; omega
          have h3 : nd0 t ≤ 9 := by
            unfold nd0; rw [if_neg (by omega)]
            exact nDigits_le (k := 9) (by decide) htB
          omega
        go_wp2
        go_round
        case rel => exact ⟨k + 1, r / 10, by omega, by omega, by go_num, by go_num, h1⟩
        case measure => simp [intOf]; omega
      · obtain rfl : r = 0 := by omega
        have h1 : k = nd0 (dv BW xs) := by have := hs.out; rw [HF.out]; simpa [nd0] using this
        have H1 := Lib.hid h1
        clear h1
        go_wp2
        go_ret
        exact ⟨ret_int (by rw [← H1.out]), hbT⟩
end Go.Proofs.YtimcbmgmngkagaaGreatDoor

namespace Go.Proofs.YtimcbmgmngkagaaGreatDoor
open Go.RowKit Go.Sort

/-- The library's table of powers of ten lies as its text lays it. -/
def Tab (w : World) : Prop := Lib.TabIs Tryz.prog w "internal/strconv.uint64pow10" .u64 Lib.pow10Tab

theorem Tab.below {w w' : World} (h : Tab w) (hb : Below w.heap.size w w') : Tab w' := by
  have hg : Tryz.prog.globalNamed "internal/strconv.uint64pow10" = some 0 := by kernel_rfl
  refine var?_below hb hg ?_ h
  have h' : w.var? Tryz.prog "internal/strconv.uint64pow10" = some _ := h
  unfold World.var? at h'
  rw [hg] at h'
  simp only [Option.bind_some] at h'
  rcases Nat.lt_or_ge 0 w.heap.size with hlt | hge
  · exact hlt
  · rw [Array.getElem?_eq_none hge] at h'; cases h'

theorem holds_zero0 (w : World) (T : TypeId) (nd : Nat) (hs : nd ≤ 24) : Holds (fun (b : UInt8) => Value.int .u8 (b.toNat : Int)) (w.alloc (.cells Lib.zeros24 T)) w.heap.size 0 (Array.replicate nd (0 : UInt8)) := fun j hj => by
  have hj' : j < nd := by simpa using hj
  refine ⟨?_, World.frozen?_alloc_new _ _ _ _⟩
  rw [World.cell?_alloc_new, Nat.zero_add, Lib.zeros24_at _ (by omega), getElem!_pos _ j hj]
  simp

theorem putRow_below (w : World) (o : Obj) (dk : Array UInt8) (k : Nat) : Below w.heap.size w ((putRow (fun (b : UInt8) => Value.int .u8 (b.toNat : Int)) (w.alloc o) w.heap.size 0 dk).drewN k) := by
  rw [alloc_eq_grow]
  obtain ⟨os', _, e⟩ := putRow_grow_new (fun (b : UInt8) => Value.int .u8 (b.toNat : Int)) w #[o] w.heap.size 0 dk (Nat.le_refl _)
  rw [e]
  refine ⟨rfl, rfl, rfl, ?_, fun i hi => ?_⟩
  · show w.heap.size ≤ (w.heap ++ os').size; simp
  · show (w.heap ++ os')[i]? = _
    rw [Array.getElem?_append_left hi]

set_option maxHeartbeats 6400000 in
set_option maxRecDepth 100000 in
theorem formatUint_in (u : Nat) (hu64 : u < 18446744073709551616) (w : World) (htab : Tab w) :
    Calls Tryz.prog 151 #[.int .u64 u, .int .i64 10] w fun e w' => e = .returned (.string ⟨(Lib.decDigits u).toArray⟩) ∧ Below w.heap.size w w' := by
  by_cases hs : u < 100
  · have hi : (u : Int) < 100 := by omega
    go_enter Tryz.func151, Tryz.ntmps151
    go_wp2_with (go_at_call 193; refine (Tryz.internal_strconv_small u hs _).mono ?_; rintro e w' ⟨rfl, rfl⟩)
    go_ret
    exact ⟨rfl, Below.refl _ _⟩
  · have hu1 : 1 ≤ u := by omega
    have hnd20 : Lib.nDigits u ≤ 20 := Lib.nDigits_le20 u hu64
    have hal : Tryz.prog.arrayLen 210 = 24 := by kernel_rfl
    have hsl1 : ∀ W, (Instr.sliceAt 210 (.pointer (some ⟨w.heap.size, 0, none⟩)) none (some (.int .i64 (Lib.nDigits u : Int))) none).run Tryz.prog W = .ok (.slice (some ⟨w.heap.size, 0, none⟩) (Lib.nDigits u) 24) W := fun W => by
      rw [run_sliceAt_array_h W 210 ⟨w.heap.size, 0, none⟩ Tryz.underlying210 .i64 (Lib.nDigits u : Int) (by omega) (by rw [hal]; omega)]
      go_simp
    have hH0 := holds_zero0 w 210 (Lib.nDigits u) (by omega)
    have hfmt := Tryz.internal_strconv_formatBase10 w.heap.size 0 24 u (Array.replicate (Lib.nDigits u) 0) (w.alloc (.cells Lib.zeros24 210)) hH0 (by rw [Array.size_replicate]; exact Lib.lt_pow_nDigits u) hu64 (by rw [Array.size_replicate]; omega)
    rw [Array.size_replicate] at hfmt
    have HH0 := Lib.hid hH0
    have hge : ¬ (u : Int) < 100 := by omega
    clear hH0 hal
    go_enter Tryz.func151, Tryz.ntmps151
    go_wp2_with (go_at_call 194; refine (Tryz.internal_strconv_numDigits u hu1 hu64 _ (Lib.tabIs_alloc htab _)).mono ?_; rintro e w' ⟨rfl, rfl⟩)
    go_at_call 195
    refine hfmt.mono ?_
    rintro e w' ⟨rfl, k, v', dk, rfl, hF⟩
    have hcv : (Go.convert 70 9 (.slice (some ⟨w.heap.size, 0, none⟩) (Lib.nDigits u) 24)).run Tryz.prog ((putRow (fun (b : UInt8) => Value.int .u8 (b.toNat : Int)) (w.alloc (.cells Lib.zeros24 210)) w.heap.size 0 dk).drewN k) = .ok (.string ⟨(Lib.decDigits u).toArray⟩) ((putRow (fun (b : UInt8) => Value.int .u8 (b.toNat : Int)) (w.alloc (.cells Lib.zeros24 210)) w.heap.size 0 dk).drewN k) := by
      have h := run_convert_bytes_back (P := Tryz.prog) ((putRow (fun (b : UInt8) => Value.int .u8 (b.toNat : Int)) (w.alloc (.cells Lib.zeros24 210)) w.heap.size 0 dk).drewN k) 70 9 5 ⟨w.heap.size, 0, none⟩ 24 (Lib.decDigits u) Tryz.underlying70 Tryz.underlying5 Tryz.underlying9 (fun j hj => by
        rw [Lib.row_is_numeral hF j hj, Lib.add_plain, World.cell?_drewN]
        exact cell?_putRow (fun (b : UInt8) => Value.int .u8 (b.toNat : Int)) _ w.heap.size 0 _ dk HH0.out (by rw [hF.size, Array.size_replicate]) j (by rw [hF.size]; rw [Lib.decDigits_length] at hj; exact hj))
      rw [Lib.decDigits_length] at h
      exact h
    go_wp2
    go_ret
    exact ⟨rfl, putRow_below w _ dk k⟩

theorem formatUint_any (u : Nat) (hu64 : u < 18446744073709551616) (w : World) (htab : Tab w) :
    Calls Tryz.prog 113 #[.int .u64 u, .int .i64 10] w fun e w' => e = .returned (.string ⟨(Lib.decDigits u).toArray⟩) ∧ Below w.heap.size w w' := by
  go_enter Tryz.func113, Tryz.ntmps113
  go_wp2_with (go_at_call 151; refine (formatUint_in u hu64 _ htab).mono ?_; rintro e w' ⟨rfl, hb⟩)
  go_ret
  exact ⟨rfl, hb⟩

end Go.Proofs.YtimcbmgmngkagaaGreatDoor

namespace Go.Proofs.YtimcbmgmngkagaaGreatDoor
open Go.RowKit
variable {P : Program} {ops : Array Oper} {Q : Exit → Act → World → Prop}

theorem rowsIn_round {l₀ n : Nat} {row : String} {args : Array Value} {w : World} {R : Value → World → Prop} (h : Rows P row args w R) : RowsIn (Fence.wide.inRound l₀) n P row args w R := by
  intro c cs _
  obtain ⟨v, w', hR, hs⟩ := h c cs
  exact ⟨v, w', hR, stepsIn_wide.2 hs⟩

theorem wpIn_of_wp_op {l₀ n : Nat} {o : Oper} {a : Act} {w : World} {K : Act → World → Prop} (hnd : ∀ c, o.op ≠ .defer c) (h : o.wp P a w K Q) : o.wpIn (Fence.wide.inRound l₀) n P a w K Q := by
  refine ⟨fun _ _ => trivial, ?_⟩
  rw [Oper.semAt_eq _ _ _ hnd]
  unfold Oper.wp at h
  generalize (execOp a.eval o).run P w = r at h
  rcases r with ⟨v, w'⟩ | ⟨v, w'⟩
  · cases v with
    | enter f args => exact ⟨fun hd => (by simp [Fence.wide] at hd), CallsIn.inRound l₀ (callsIn_wide.2 h)⟩
    | row row args => exact ⟨fun hd => (by simp [Fence.wide] at hd), rowsIn_round h⟩
    | round l f tmps assign body => exact h.elim
    | _ => exact h
  · cases v with
    | panic v => exact h
    | _ => exact h.elim

theorem wpOpIn_of_wpOp {l₀ n i : Nat} {K K' : Act → World → Prop} {a : Act} {w : World} (hnd : ∀ (j : Nat) (o : Oper) c, ops[j]? = some o → o.op ≠ .defer c) (hL : ¬ LetsOut Q)
    (hK : ∀ a w, K a w → K' a w) (h : wpOp P ops Q i K a w) : wpOpIn (Fence.wide.inRound l₀) n P ops Q i K' a w := by
  unfold wpOp at h
  unfold wpOpIn
  cases ho : ops[i]? with
  | none => simp only [ho] at h; exact hK _ _ h
  | some o =>
    simp only [ho] at h
    dsimp only
    split at h
    · rename_i hw
      rw [if_pos hw]
      rcases h with h | ⟨_, h⟩
      · exact Oper.wpIn_mono hK (wpIn_of_wp_op (fun c => hnd i o c ho) h)
      · exact (hL h).elim
    · rename_i hw
      rw [if_neg hw]
      exact ⟨fun _ _ => trivial, hK _ _ h⟩

theorem wpAnyIn_of_wpAny {l₀ n : Nat} {md : Region.Mode} (hnd : ∀ (j : Nat) (o : Oper) c, ops[j]? = some o → o.op ≠ .defer c) (hL : ¬ LetsOut Q) :
    ∀ (f : Nat) (listed : Array Bool) (a : Act) (w : World), wpAny P md ops Q f listed a w → wpAnyIn (Fence.wide.inRound l₀) n P md ops Q f listed a w := by
  intro f
  induction f with
  | zero => exact fun _ _ _ h => h
  | succ f ih => exact fun listed a w h => ⟨h.1, fun i hi => wpOpIn_of_wpOp hnd hL (ih _) (h.2 i hi)⟩

def noDeferB (l : List Oper) : Bool := l.all fun o => match o.op with | .defer _ => false | _ => true
theorem noDefer_of {l : List Oper} (h : noDeferB l = true) : ∀ (j : Nat) (o : Oper) c, l.toArray[j]? = some o → o.op ≠ .defer c := by
  intro j o c ho e
  have hm : o ∈ l := by
    rw [List.getElem?_toArray] at ho
    exact List.mem_of_getElem? ho
  have := List.all_eq_true.1 h o hm
  rw [e] at this
  cases this

theorem wpListIn_of_wpList {l₀ n : Nat} (hL : ¬ LetsOut Q) : ∀ (l : List Oper), noDeferB l = true → ∀ (a : Act) (w : World), wpList P ops Q l a w → wpListIn (Fence.wide.inRound l₀) n P ops Q l a w
  | [], _, _, _, h => h
  | o :: rest, hB, a, w, h => by
    have hB' : noDeferB rest = true := by
      unfold noDeferB at hB ⊢
      rw [List.all_cons, Bool.and_eq_true] at hB
      exact hB.2
    have hnd : ∀ c, o.op ≠ .defer c := by
      intro c e
      unfold noDeferB at hB
      rw [List.all_cons, Bool.and_eq_true, e] at hB
      cases hB.1
    unfold wpList at h
    unfold wpListIn
    split at h
    · rename_i hw
      rw [if_pos hw]
      rcases h with h | ⟨_, h⟩
      · exact Oper.wpIn_mono (fun a w h => wpListIn_of_wpList hL rest hB' a w h) (wpIn_of_wp_op hnd h)
      · exact (hL h).elim
    · rename_i hw
      rw [if_neg hw]
      exact ⟨fun _ _ => trivial, wpListIn_of_wpList hL rest hB' _ _ h⟩

/-- Reads, then one chain of writes: one walk in the order of the text. -/
theorem wpIn_still_tail {l₀ nn : Nat} {id : Nat} {a : Act} {w : World} {l : List Oper} (n : Nat) (hm : P.follows .mixedOrders = true) (hB : Region.lexTailB .any l.toArray n = true)
    (hndB : noDeferB l = true) (hL : ¬ LetsOut Q)
    (h : wpStill P l.toArray w.drew (fun a' => wpList P l.toArray Q (l.drop n) a' w.drew) (l.take n) a) : (Code.region id l.toArray true).wpIn (Fence.wide.inRound l₀) nn P Q a w := by
  simp only [Region.lexTailB, Bool.and_eq_true, decide_eq_true_eq] at hB
  obtain ⟨⟨⟨⟨hsel, hn⟩, hs⟩, hc⟩, hlex⟩ := hB
  have hn' : n < l.length := by simpa using hn
  have htl : (l.take n).length = n := by simp; omega
  have hdl : (l.drop n).length = l.toArray.size - n := by simp
  have inv0 : HeadInv .any l.toArray n (Array.replicate l.toArray.size false) :=
    ⟨by simp, fun j oj _ hl => (by rw [getD_replicate_false] at hl; cases hl), fun t _ ht => getD_in (by simpa using ht) (getD_replicate_false _ _)⟩
  have H := wpAnyL_lex (md := .any) (g := l.toArray.size - n) hsel hs hc hn (l.take n) 0 _ a (fun j hj => by
    have hj' : j < n := by rw [htl] at hj; exact hj
    simp [hj']) (by simpa using htl) inv0 (by rw [htl]; exact hlex) h
  refine wpIn_region_any hm (wpAnyIn_of_wpAny (noDefer_of hndB) hL _ _ _ _ ?_)
  have := wpAny_of_head (Q' := Q) (g := l.toArray.size - n) (fun listed a' hL => by
    have := wpAny_of_seq (md := .any) (Q' := Q) (l.drop n) n listed a' { w with drawn := w.drawn + 1 } (fun j => by simp [List.getElem?_drop]) (by rw [hdl]; exact hL.1) hL.2
    rwa [hdl] at this) _ _ _ H
  rw [htl, show n + (l.toArray.size - n) = l.toArray.size by omega] at this
  exact this

end Go.Proofs.YtimcbmgmngkagaaGreatDoor

namespace Go.Proofs.YtimcbmgmngkagaaGreatDoor
open Go.RowKit Go.Shelf
attribute [local go_sem] Oper.semAt_some

/-- One word more of the quotient, and what is left. -/
def dstep (xs : List Nat) (y : Nat) (st : List Nat × Nat) (i : Nat) : List Nat × Nat :=
  (st.1.set i ((st.2 * BW + xs[i]?.getD 0) / y), (st.2 * BW + xs[i]?.getD 0) % y)

def dfold {n : Nat} (xs : List Nat) (y : Nat) (pre : List (Pos n)) : List Nat × Nat := pre.foldl (fun st i => dstep xs y st i.1) (List.replicate n 0, 0)

theorem dfold_snoc {n : Nat} (xs : List Nat) (y : Nat) (pre : List (Pos n)) (i : Pos n) : dfold xs y (pre ++ [i]) = dstep xs y (dfold xs y pre) i.1 := by
  unfold dfold; rw [List.foldl_append]; rfl

theorem drop_set_at (qs : List Nat) (i v : Nat) (h : i < qs.length) : (qs.set i v).drop i = v :: qs.drop (i + 1) := by
  rw [List.drop_eq_getElem_cons (by simpa using h)]
  simp [List.drop_set]

theorem dfold_says {n : Nat} {xs : List Nat} {y : Nat} (hy : 0 < y) (hx : xs.length = n) : ∀ k, k ≤ n →
    (dfold xs y (upto (dnAt n) k)).1.length = n ∧ (dfold xs y (upto (dnAt n) k)).2 < y ∧
    dv BW (xs.drop (n - k)) = dv BW ((dfold xs y (upto (dnAt n) k)).1.drop (n - k)) * y + (dfold xs y (upto (dnAt n) k)).2 := by
  intro k
  induction k with
  | zero =>
    intro _
    simp only [upto, List.range_zero, List.map_nil, dfold, List.foldl_nil, Nat.sub_zero]
    rw [List.drop_of_length_le (by omega), List.drop_of_length_le (by simp)]
    exact ⟨by simp, hy, by simp [dv]⟩
  | succ k ih =>
    intro hk
    obtain ⟨h1, h2, h3⟩ := ih (by omega)
    rw [upto_succ, dfold_snoc]
    generalize dfold xs y (upto (dnAt n) k) = st at h1 h2 h3
    have e : (dnAt n k).1 = n - (k + 1) := by simp only [dnAt]; omega
    have e2 : n - (k + 1) + 1 = n - k := by omega
    rw [e]
    refine ⟨by simp [dstep, h1], Nat.mod_lt _ hy, ?_⟩
    simp only [dstep]
    rw [drop_set_at _ _ _ (by omega), e2, List.drop_eq_getElem_cons (by omega), e2, dv_cons, dv_cons]
    have hg : xs[n - (k + 1)]?.getD 0 = xs[n - (k + 1)] := by simp [show n - (k + 1) < xs.length by omega]
    rw [hg]
    exact div_step h3

theorem Own.kept {k : IntKind} {e : TypeId} {A A' : World} {B : Nat} {ns : List Nat} (h : Own k e A B ns) {row : Option Nat} (hg : A.grownBy A' row) (hr : ∀ r, row = some r → ∃ o : Obj, A.heap[r]? = some o ∧ o.isCells = false) : Own k e A' B ns := by
  unfold Own at h ⊢
  rw [hg.block B (Array.getElem?_eq_some_iff.1 h).1 (fun e' => by obtain ⟨o, ho, hc⟩ := hr B e'.symm; rw [h] at ho; cases ho; cases hc)]
  exact h

theorem Own.putObj {k : IntKind} {e : TypeId} {A : World} {B : Nat} {ns : List Nat} (h : Own k e A B ns) (D : Nat) (o o' : Obj) (hD : A.heap[D]? = some o) (ho : o.isCells = false) : Own k e (A.putObj D o') B ns :=
  h.kept (grownBy_putObj' A D o') (fun r e => by cases e; exact ⟨o, hD, ho⟩)

theorem Own.setOther {k : IntKind} {e : TypeId} {A : World} {B : Nat} {ns : List Nat} (h : Own k e A B ns) (a : Addr) (v : Value) (ha : B ≠ a.block) : Own k e (A.setCell a v) B ns := by
  unfold Own at h ⊢; rw [Below.heap_setCell _ _ _ _ ha]; exact h

theorem Boxed.setOther {A : World} {B : Nat} {t : TypeId} {v : Value} (h : Boxed A B t v) (a : Addr) (x : Value) (ha : B ≠ a.block) : Boxed (A.setCell a x) B t v := by
  unfold Boxed at h ⊢; rw [Below.heap_setCell _ _ _ _ ha]; exact h

theorem Boxed.kept' {A A' : World} {B : Nat} {t : TypeId} {v : Value} (h : Boxed A B t v) {row : Option Nat} (hg : A.grownBy A' row) (hr : ∀ r, row = some r → ∃ o : Obj, A.heap[r]? = some o ∧ o.isCells = false) : Boxed A' B t v :=
  h.kept hg (fun e' => by obtain ⟨o, ho, hc⟩ := hr B e'.symm; rw [show A.heap[B]? = _ from h] at ho; cases ho; cases hc)

/-- What holds between two rounds. B: the first of the call's own blocks. -/
def DivI (w : World) (B n : Nat) (xs : List Nat) (y : Nat) (pre : List (Pos n)) (W : World) : Prop :=
  ∃ qs r, Hid (dfold xs y pre = (qs, r) ∧ qs.length = n ∧ Dg BW qs) ∧ r < y ∧ Boxed W B 117 (.int .u64 (y : Int)) ∧ Boxed W (B + 1) 76 (.slice (some ⟨B + 1 + 1 + 1, 0, none⟩) n n)
    ∧ Boxed W (B + 1 + 1) 117 (.int .u64 (r : Int)) ∧ Own .u64 117 W (B + 1 + 1 + 1) qs

set_option maxRecDepth 100000 in
set_option maxHeartbeats 2000000 in
theorem divideByWord_any (p : Option Addr) (n c y : Nat) (xs : List Nat) (w : World) (hn : n ≤ 1000000000) (hx : Rd .u64 w p n xs) (gx : Dg BW xs) (hy0 : 0 < y) (hyB : y < 1000000000) :
    Calls Tryz.prog 148 #[.slice p n c, .int .u64 (y : Int)] w fun e w' => ∃ p' n' c' qs r, e = .returned (.tuple #[.slice p' n' c', .int .u64 ((r : Nat) : Int)]) ∧ Rd .u64 w' p' n' qs ∧ n' ≤ c' ∧ Cn BW qs ∧ r < y ∧ dv BW xs = dv BW qs * y + r ∧ Below w.heap.size w w' := by
  have hmk : ∀ w, (Instr.makeSlice 76 (.int .i64 (n : Int)) (.int .i64 (n : Int))).run Tryz.prog w = .ok (.slice (some ⟨w.heap.size, 0, none⟩) n n) (w.alloc (.cells (Go.madeCells #[.int .u64 0] n) 117)) := fun w => mkWords n (by omega) w
  refine (callsIn_wide (n := 6)).1 ?_
  refine callsIn_of_wp_marks Tryz.func148 rfl trivial ?_ rfl
  simp only [Tryz.ntmps148, List.size_toArray, List.length_cons, List.length_nil, Nat.reduceAdd, Nat.reduceSub, Array.replicate_succ, Array.replicate_zero, List.push_toArray, List.append_toArray, List.nil_append, List.cons_append]
  gi_wp2_with (refine ⟨trivial, ?_⟩; gi_at_call 112; refine (down_in Fence.wide _ trivial rfl _ _ _ _).mono ?_; rintro e w' ⟨rfl, rfl⟩)
  have hB0 : Below w.heap.size w (((((w.alloc (.cells #[.int .u64 (y : Int)] 117)).alloc (.cells #[.slice (some ⟨w.heap.size + 1 + 1 + 1, 0, none⟩) n n] 76)).alloc (.cells #[.int .u64 0] 117)).alloc
      (.cells (Go.madeCells #[.int .u64 0] n) 117)).alloc (.cells #[.slice p n c] 76)) :=
    (((((Below.refl _ w).alloc (Nat.le_refl _) _).alloc (by simp) _).alloc (by simp; omega) _).alloc (by simp; omega) _).alloc (by simp; omega) _
  have c0 := Boxed.new w 117 (.int .u64 (y : Int))
  have c1 := Boxed.new (w.alloc (.cells #[.int .u64 (y : Int)] 117)) 76 (.slice (some ⟨w.heap.size + 1 + 1 + 1, 0, none⟩) n n)
  have c2 := Boxed.new ((w.alloc (.cells #[.int .u64 (y : Int)] 117)).alloc (.cells #[.slice (some ⟨w.heap.size + 1 + 1 + 1, 0, none⟩) n n] 76)) 117 (.int .u64 0)
  have c3 := Own.new .u64 117 (((w.alloc (.cells #[.int .u64 (y : Int)] 117)).alloc (.cells #[.slice (some ⟨w.heap.size + 1 + 1 + 1, 0, none⟩) n n] 76)).alloc (.cells #[.int .u64 0] 117)) n
  have c4 := Boxed.new ((((w.alloc (.cells #[.int .u64 (y : Int)] 117)).alloc (.cells #[.slice (some ⟨w.heap.size + 1 + 1 + 1, 0, none⟩) n n] 76)).alloc (.cells #[.int .u64 0] 117)).alloc (.cells (Go.madeCells #[.int .u64 0] n) 117)) 76 (.slice p n c)
  simp only [World.size_alloc] at c1 c2 c3 c4
  refine wpIn_rangeFunc_ownF rfl (by omega) (gf := 150) (lb := #[.pointer (some ⟨w.heap.size + 1 + 1 + 1 + 1, 0, none⟩)]) rfl trivial (enters_of Tryz.func150 (by kernel_rfl) rfl)
    (down_stops Fence.wide 5 trivial rfl (by omega) (w.heap.size + 1 + 1 + 1 + 1) n c (fun b => b < w.heap.size ∨ b = w.heap.size + 1 + 1 + 1 + 1) p xs hn _ (fun b hb => by simp; omega) c4.cell (Or.inr rfl) hx.1
      (fun i hi => by obtain ⟨b, off, hp, hb, hcl⟩ := hx.2 i hi; exact ⟨b, off, hp, Or.inl hb, (hB0.cell (p := ⟨b, off + i, none⟩) hb).trans hcl⟩))
    KeepsAt.trans (KeepsAt.putObj (fun b hb => by simp; omega)) (Below.refl _ _) (fun _ => rfl)
    (fun pre W => DivI w w.heap.size n xs y pre W ∧ Below w.heap.size w W)
    (fun _ _ _ => False)
    (OwnFrom.and (Own.from (fun s A B row hs hg hr => by obtain ⟨qs, r, h1, h2, h3, h4, h5, h6⟩ := hs; exact ⟨qs, r, h1, h2, Boxed.kept' h3 hg hr, Boxed.kept' h4 hg hr, Boxed.kept' h5 hg hr, h6.kept hg hr⟩) _) (ownFrom_below (Nat.le_refl _) (by simp; omega)))
    (fun _ _ _ _ _ hs _ _ => hs)
    ⟨⟨List.replicate n 0, 0, ⟨rfl, by simp, Dg.replicate (by decide) _⟩, hy0, (((c0.alloc _).alloc _).alloc _).alloc _, ((c1.alloc _).alloc _).alloc _, (c2.alloc _).alloc _, c3.below ((Below.refl _ _).alloc (Nat.le_refl _) _) (by simp)⟩, hB0⟩
    (fun x => { tmps := #[.slice p n c, .int .u64 (y : Int), undef, .pointer (some ⟨w.heap.size, 0, none⟩), .pointer (some ⟨w.heap.size + 1, 0, none⟩), .pointer (some ⟨w.heap.size + 1 + 1, 0, none⟩), .int .i64 (x.1 : Int), .int .u64 ((xs[x.1]?.getD 0 : Nat) : Int), .slice p n c,
        .int .i64 (n : Int), .slice (some ⟨w.heap.size + 1 + 1 + 1, 0, none⟩) n n, .slice p n c,
        .func (.func 150) #[] #[.pointer (some ⟨w.heap.size + 1 + 1 + 1 + 1, 0, none⟩)], .int .i64 (x.1 : Int), .int .u64 ((xs[x.1]?.getD 0 : Nat) : Int),
        undef, undef, undef, undef, undef, undef, undef, undef, undef, undef, undef, undef, undef, undef, undef, undef], defers := [] }) ?assign ?body ?done ?stop
  case assign =>
    intro l x W K hK
    unfold encDn
    gi_wp2
    exact hK
  case body =>
    rintro l pre ⟨i, hi⟩ W ⟨⟨qs, r, hq, hr, h3, h4, h5, h6⟩, hB⟩ hlt
    have hin : i < n := hi (by omega)
    have hcx := h6.cell i (by rw [hq.out.2.1]; exact hin)
    have hfx := h6.frozen i
    have k3 := h3.cell
    have k4 := h4.cell
    have k5 := h5.cell
    have f5 := h5.frozen
    have b1 : xs[i]?.getD 0 < 1000000000 := gx.get (by decide) i
    obtain ⟨x, hxi⟩ : ∃ x, xs[i]?.getD 0 = x := ⟨_, rfl⟩
    have HXI := Lib.hid hxi
    dsimp only
    rw [hxi] at b1 ⊢
    clear hxi
    have hyz : ¬ y = 0 := by omega
    have hfit := div_fits (b := BW) hr b1
    obtain ⟨t, ht⟩ : ∃ t, r * BW + x = t := ⟨_, rfl⟩
    obtain ⟨q', hq'⟩ : ∃ q', t / y = q' := ⟨_, rfl⟩
    obtain ⟨m', hm'⟩ : ∃ m', t % y = m' := ⟨_, rfl⟩
    have hs : (r : Int) * 1000000000 + (x : Int) = (t : Int) := by rw [← ht]; simp
    have t1 : (t : Int) ≤ 1000000000000000000 := by omega
    rw [ht, hq'] at hfit
    have q1 : q' < 1000000000 := hfit
    have hq1 : IntKind.u64.wrap ((t : Int).tdiv (y : Int)) = (q' : Int) := by
      rw [Int.tdiv_eq_ediv_of_nonneg (by omega), ← Int.natCast_ediv, hq']
      exact IntWalk.u64_in _ ⟨by omega, by omega⟩
    have hq2 : (t : Int) / (y : Int) = (q' : Int) := by rw [← Int.natCast_ediv, hq']
    have hm1 : (t : Int).tmod (y : Int) = (m' : Int) := by rw [Int.tmod_eq_emod_of_nonneg (by omega), ← Int.natCast_emod, hm']
    have hm2 : (t : Int) % (y : Int) = (m' : Int) := by rw [← Int.natCast_emod, hm']
    have HT := Lib.hid (And.intro ht (And.intro hq' hm'))
    clear hfit ht hq' hm'
    gi_wp2
    refine wpIn_still_tail 6 (by kernel_rfl) (by kernel_rfl) (by kernel_rfl) (by rintro ⟨_, _, h⟩; exact h) ?_
    simp only [List.take_succ_cons, List.take_zero, List.drop_succ_cons, List.drop_zero]
    repeat still_step
    refine wpStill_nil ?_
    go_wp2
    gi_wp2
    obtain ⟨e1, e2, e3⟩ := HT.out
    obtain ⟨q1', q2', q3'⟩ := hq.out
    refine ⟨(((KeepsOthers.setCell _ _ _).trans (KeepsOthers.setCell _ _ _)).trans (KeepsOthers.setCell _ _ _)).trans (KeepsOthers.drew _),
      (((KeepsAt.refl _ W).setCell _ _ (by simp <;> omega)).setCell _ _ (by simp <;> omega)).setCell _ _ (by simp <;> omega),
      ⟨qs.set i q', m', ⟨?_, by simp [q2'], q3'.set i (show _ < 1000000000 from q1)⟩, ?_, ?_, ?_, ?_, ?_⟩, (((hB.setCell (by simp <;> omega) _).setCell (by simp <;> omega) _).setCell (by simp <;> omega) _).drew⟩
    · rw [dfold_snoc, q1']; simp only [dstep]; rw [HXI.out, e1, e2, e3]
    · rw [← e3]; exact Nat.mod_lt _ hy0
    · exact Boxed.setOther (Boxed.setOther (Boxed.setOther h3 _ _ (by simp <;> omega)) _ _ (by simp <;> omega)) _ _ (by simp <;> omega)
    · exact Boxed.setOther (Boxed.setOther (Boxed.setOther h4 _ _ (by simp)) _ _ (by simp <;> omega)) _ _ (by simp)
    · exact Boxed.set _ (Boxed.setOther (Boxed.set _ h5) _ _ (by simp))
    · exact Own.setOther ((Own.setOther h6 _ _ (by simp)).set i q') _ _ (by simp)
  case done =>
    rintro D zs W hD rfl ⟨⟨qs, r, hq, hr, h3, h4, h5, h6⟩, hB⟩ hK
    have k4 := h4.cell
    have f4 := h4.frozen
    have k5 := h5.cell
    have f5 := h5.frozen
    have hql := hq.out.2.1
    gi_wp2
    refine wpIn_wide.2 ?_
    go_region_with (go_at_call 147; refine (trimmed_any _ _ _ qs _ (by unfold maxLen; omega) (Nat.le_refl _) (Own.rd (Own.below h6 ((Below.refl (w.heap.size + 1 + 1 + 1 + 1) _).drew) (by omega)) hql)).mono ?_; rintro e w' ⟨rfl, rfl⟩)
    all_goals
      gi_wp2
      have hW' : KeepsOthers W ((W.setCell ⟨w.heap.size + 1, 0, none⟩ (.slice (some ⟨w.heap.size + 1 + 1 + 1, 0, none⟩) (trimLen qs n) (trimLen qs n))).setCell ⟨w.heap.size + 1 + 1, 0, none⟩ (.int .u64 (r : Int))).drew :=
        ((KeepsOthers.setCell _ _ _).trans (KeepsOthers.setCell _ _ _)).trans (KeepsOthers.drew _)
      have hK' := hW'.same D _ hK rfl
      have g4 : Boxed ((W.setCell ⟨w.heap.size + 1, 0, none⟩ (.slice (some ⟨w.heap.size + 1 + 1 + 1, 0, none⟩) (trimLen qs n) (trimLen qs n))).setCell ⟨w.heap.size + 1 + 1, 0, none⟩ (.int .u64 (r : Int))).drew (w.heap.size + 1) 76 _ := Boxed.setOther (Boxed.set _ h4) _ _ (by simp <;> omega)
      have g5 : Boxed ((W.setCell ⟨w.heap.size + 1, 0, none⟩ (.slice (some ⟨w.heap.size + 1 + 1 + 1, 0, none⟩) (trimLen qs n) (trimLen qs n))).setCell ⟨w.heap.size + 1 + 1, 0, none⟩ (.int .u64 (r : Int))).drew (w.heap.size + 1 + 1) 117 _ := Boxed.set _ (Boxed.setOther h5 _ _ (by simp <;> omega))
      have g6 : Own .u64 117 ((W.setCell ⟨w.heap.size + 1, 0, none⟩ (.slice (some ⟨w.heap.size + 1 + 1 + 1, 0, none⟩) (trimLen qs n) (trimLen qs n))).setCell ⟨w.heap.size + 1 + 1, 0, none⟩ (.int .u64 (r : Int))).drew (w.heap.size + 1 + 1 + 1) qs := Own.setOther (Own.setOther h6 _ _ (by simp <;> omega)) _ _ (by simp <;> omega)
      have gB : Below w.heap.size w ((W.setCell ⟨w.heap.size + 1, 0, none⟩ (.slice (some ⟨w.heap.size + 1 + 1 + 1, 0, none⟩) (trimLen qs n) (trimLen qs n))).setCell ⟨w.heap.size + 1 + 1, 0, none⟩ (.int .u64 (r : Int))).drew := ((hB.setCell (by simp <;> omega) _).setCell (by simp <;> omega) _).drew
      refine ⟨by simp, .inl ⟨_, _, rfl, run_takeDeferred hK', ?_⟩⟩
      have p4 := (Boxed.kept' g4 (grownBy_putObj' _ D (.deferred none)) (fun r e => by cases e; exact ⟨_, hK', rfl⟩)).cell
      have p5 := (Boxed.kept' g5 (grownBy_putObj' _ D (.deferred none)) (fun r e => by cases e; exact ⟨_, hK', rfl⟩)).cell
      have p6 := g6.putObj D _ (.deferred none) hK' rfl
      have hsays := dfold_says hy0 hx.1 n (Nat.le_refl _)
      rw [hq.out.1] at hsays
      simp only [Nat.sub_self, List.drop_zero] at hsays
      refine ⟨.tuple #[.slice (some ⟨w.heap.size + 1 + 1 + 1, 0, none⟩) (trimLen qs n) (trimLen qs n), .int .u64 (r : Int)], ?_, _, _, _, trimZ qs, r, rfl, ?_, Nat.le_refl _, trimZ_cn hq.out.2.2, hr, ?_, gB.trans (belowK_b (w := w) (Nat.le_refl _) _ D _ _ (by simp at hD; omega) hK' rfl rfl)⟩
      · simp [results, Tryz.f148, go_sem, p4, p5]
      · unfold trimZ; rw [hql]; exact (p6.rd hql).take _ (trimLen_le _ _)
      · rw [dv_trimZ]; exact hsays.2.2
  case stop =>
    rintro D c pre W _ _ h _
    exact h.elim
end Go.Proofs.YtimcbmgmngkagaaGreatDoor
