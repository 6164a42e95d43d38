/-
  A number is read from its string.
-/
import Derived.Test.YtapfkinpdinbgaaDoorIs
import Derived.Test.YtapfkinpdinbgaaDoorNumIs
namespace Go.Proofs.YtapfkinpdinbgaaDoor
open Go.RowKit

/-- What holds when r digits are still to come: the group of the next one is (r - 1) / 9. -/
def ReadI (ds : List UInt8) (ws : List Nat) (k : Nat) : Prop :=
  ws.length = (ds.length + 8) / 9 ∧ Dg BW ws ∧ k ≤ ds.length ∧
  (k = ds.length → dv BW ws = decV ds) ∧
  (k < ds.length → decV (ds.take k) = ws[(ds.length - k - 1) / 9]?.getD 0 + 10 ^ (9 * ((ds.length - k - 1) / 9 + 1) - (ds.length - k)) * dv BW (ws.drop ((ds.length - k - 1) / 9 + 1)) ∧
    ws[(ds.length - k - 1) / 9]?.getD 0 < 10 ^ (9 * ((ds.length - k - 1) / 9 + 1) - (ds.length - k)) ∧ ∀ t, t < (ds.length - k - 1) / 9 → ws[t]?.getD 0 = 0)

theorem ReadI.start (ds : List UInt8) (h : 0 < ds.length) : ReadI ds (List.replicate ((ds.length + 8) / 9) 0) 0 := by
  refine ⟨by simp, Dg.replicate (by decide) _, Nat.zero_le _, fun e => by omega, fun _ => ⟨?_, ?_, fun t _ => ?_⟩⟩
  · rw [List.drop_of_length_le (by simp; omega)]
    simp only [List.take_zero, decV, List.foldl_nil, dv, Nat.mul_zero, Nat.add_zero]
    rw [List.getElem?_replicate]; split <;> rfl
  · rw [List.getElem?_replicate]
    have : (if (ds.length - 0 - 1) / 9 < (ds.length + 8) / 9 then some 0 else none).getD 0 = 0 := by split <;> rfl
    rw [this]; exact Nat.pow_pos (by decide)
  · rw [List.getElem?_replicate]; split <;> rfl

theorem dv_zeros_below {ws : List Nat} {g : Nat} (h : ∀ t, t < g → ws[t]?.getD 0 = 0) (hg : g ≤ ws.length) : dv BW ws = BW ^ g * dv BW (ws.drop g) := by
  rw [dv_take_drop BW ws g hg]
  have : ws.take g = List.replicate g 0 := by
    apply List.ext_getElem
    · simp [hg]
    · intro i h1 h2
      simp at h1
      have hi : i < ws.length := by omega
      have := h i (by omega)
      rw [List.getElem?_eq_getElem hi] at this
      simpa using this
  rw [this, dv_replicate]; simp

theorem ReadI.step {ds : List UInt8} {ws : List Nat} {k d : Nat} (h : ReadI ds ws k) (hk : k < ds.length) (hd : d < 10) (hdk : (ds[k]'hk).toNat - 48 = d) :
    ws[(ds.length - k - 1) / 9]?.getD 0 < 100000000 ∧ ReadI ds (ws.set ((ds.length - k - 1) / 9) (ws[(ds.length - k - 1) / 9]?.getD 0 * 10 + d)) (k + 1) := by
  obtain ⟨h1, h2, h3, _, h5⟩ := h
  obtain ⟨i1, i2, i3⟩ := h5 hk
  have htk : decV (ds.take (k + 1)) = decV (ds.take k) * 10 + d := by
    rw [List.take_succ_eq_append_getElem hk, decV_snoc, hdk]
  generalize hg : (ds.length - k - 1) / 9 = g at *
  have hgl : g < ws.length := by omega
  generalize hx : ws[g]?.getD 0 = x at *
  generalize hc : 9 * (g + 1) - (ds.length - k) = c at *
  have hc9 : c + 1 ≤ 9 := by omega
  have hp : 10 ^ (c + 1) ≤ 10 ^ 9 := Nat.pow_le_pow_right (by decide) hc9
  rw [Nat.pow_succ] at hp
  have hsmall : x * 10 + d < 10 ^ (c + 1) := by rw [Nat.pow_succ]; omega
  have hp8 : 10 ^ c ≤ 10 ^ 8 := Nat.pow_le_pow_right (by decide) (by omega)
  refine ⟨by omega, by simp [h1], h2.set _ (by show _ < 1000000000; rw [Nat.pow_succ] at hsmall; omega), by omega, ?_, ?_⟩
  · intro he
    have hg0 : g = 0 := by omega
    have hc8 : c = 8 := by omega
    subst hg0 hc8
    have e1 : ds.take (k + 1) = ds := List.take_of_length_le (by omega)
    rw [e1] at htk
    have e2 := dv_zeros_below (ws := ws.set 0 (x * 10 + d)) (g := 0) (fun t ht => by omega) (by omega)
    rw [e2, List.drop_zero]
    have e3 : ws.set 0 (x * 10 + d) = (x * 10 + d) :: ws.drop 1 := by
      have := drop_set_at' ws 0 (x * 10 + d) hgl
      simpa using this
    rw [e3, dv_cons, htk, i1]
    have : (10 : Nat) ^ 8 = 100000000 := by decide
    simp only [Nat.zero_add, Nat.pow_zero, Nat.one_mul, this]
    show _ + 1000000000 * _ = _
    omega
  · intro hk1
    rw [htk, i1]
    by_cases hsame : (ds.length - (k + 1) - 1) / 9 = g
    · rw [hsame]
      have hc1 : 9 * (g + 1) - (ds.length - (k + 1)) = c + 1 := by omega
      rw [hc1, List.getElem?_set_self hgl, List.drop_set_of_lt (by omega)]
      refine ⟨?_, hsmall, fun t ht => ?_⟩
      · simp only [Option.getD_some, Nat.pow_succ]
        generalize dv BW (ws.drop (g + 1)) = H
        generalize 10 ^ c = e
        grind
      · rw [set_get_other _ _ _ _ (by omega)]; exact i3 t ht
    · have hgp : (ds.length - (k + 1) - 1) / 9 = g - 1 := by omega
      have hg1 : 1 ≤ g := by omega
      have hc8 : c = 8 := by omega
      have hc0 : 9 * (g - 1 + 1) - (ds.length - (k + 1)) = 0 := by omega
      have e1 : g - 1 + 1 = g := by omega
      rw [hgp, hc0, e1, set_get_other _ _ _ _ (by omega), i3 (g - 1) (by omega)]
      refine ⟨?_, by decide, fun t ht => ?_⟩
      · rw [drop_set_at' _ _ _ hgl, dv_cons, hc8]
        have : (10 : Nat) ^ 8 = 100000000 := by decide
        simp only [this, Nat.pow_zero, Nat.one_mul, Nat.zero_add]
        show _ = _ + 1000000000 * _
        omega
      · rw [set_get_other _ _ _ _ (by omega)]; exact i3 t (by omega)

theorem ReadI.finish {ds : List UInt8} {ws : List Nat} (h : ReadI ds ws ds.length) : ws.length = (ds.length + 8) / 9 ∧ Dg BW ws ∧ dv BW ws = decV ds := ⟨h.1, h.2.1, h.2.2.2.1 rfl⟩

theorem Own.iterAt {k : IntKind} {e : TypeId} {w : World} {B : Nat} {ns : List Nat} (h : Own k e w B ns) (b : Nat) (hb : B ≠ b) (s : ByteArray) (pos : Nat) : Own k e (w.iterAt b s pos) B ns := by
  unfold Own at h ⊢; rw [Lib.iterAt_other _ _ _ _ _ hb]; exact h

theorem neg_iff (l : List UInt8) : decide ((digitsOf l).length < l.length) = isNeg l := by
  cases l with
  | nil => rfl
  | cons c t =>
    rw [digitsOf.eq_2]
    by_cases h : c = 45
    · subst h; simp [isNeg]
    · simp [h, isNeg]

set_option maxHeartbeats 1000000 in
theorem read_any (s : ByteArray) (w : World) (hs : s.size ≤ maxLen) (hnum : numB s.data.toList = true) :
    Calls Tryd.prog 59 #[.string s] w (NumV w (strV s.data.toList) 223) := by
  unfold maxLen at hs
  have hl : (digitsOf s.data.toList).length ≤ s.size := digitsOf_le _
  have hneg := neg_iff s.data.toList
  have hsv : strV s.data.toList = sv (isNeg s.data.toList) (decV (digitsOf s.data.toList)) := rfl
  obtain ⟨ds, hds⟩ : ∃ ds, digitsOf s.data.toList = ds := ⟨_, rfl⟩
  obtain ⟨ng, hng⟩ : ∃ ng, isNeg s.data.toList = ng := ⟨_, rfl⟩
  have hall : 0 < ds.length ∧ ds.length ≤ 2000 ∧ ds.all isDg = true := by
    unfold numB plainB at hnum
    rw [hds] at hnum
    simp only [Bool.and_eq_true, decide_eq_true_eq, Bool.not_eq_true'] at hnum
    refine ⟨?_, hnum.2, hnum.1.1.2⟩
    have := hnum.1.1.1
    cases ds with
    | nil => simp at this
    | cons c t => simp
  rw [hds, hng] at hsv
  rw [hds] at hl
  rw [hds, hng] at hneg
  have hsz : s.data.toList.length = s.size := by rw [← Lib.size_eq]
  rw [hsz] at hneg
  obtain ⟨a0, a1, a2⟩ := hall
  have HD := Lib.hid hds
  have HN := Lib.hid hneg
  have HS := Lib.hid hsv
  have HA := Lib.hid a2
  clear hds hneg hsv hng hsz hnum a2
  have hmk : ∀ w, (Instr.makeSlice 77 (.int .i64 (((ds.length : Int) + 9 - 1) / 9)) (.int .i64 (((ds.length : Int) + 9 - 1) / 9))).run Tryd.prog w = .ok (.slice (some ⟨w.heap.size, 0, none⟩) ((ds.length + 8) / 9) ((ds.length + 8) / 9)) (w.alloc (.cells (Go.madeCells #[.int .u64 0] ((ds.length + 8) / 9)) 73)) := fun w => by
    have e : ((ds.length : Int) + 9 - 1) / 9 = (((ds.length + 8) / 9 : Nat) : Int) := by omega
    rw [e]; exact mkWords _ (by omega) w
  go_enter Tryd.func59, Tryd.ntmps59
  go_wp2_with (go_at_call 43; refine (trimMinus _ _).mono ?_; rintro e w' ⟨rfl, rfl⟩; rw [HD.out])
  have hB0 : Below w.heap.size w (((w.alloc (.cells #[.bool false, .slice none 0 0] 79)).alloc (.cells (Go.madeCells #[.int .u64 0] ((ds.length + 8) / 9)) 73)).iter ⟨ds.toArray⟩ 0) :=
    (((Below.refl _ w).alloc (Nat.le_refl _) _).alloc (by simp) _).alloc (by simp <;> omega) _
  have c0 := Own.new .u64 73 (w.alloc (.cells #[.bool false, .slice none 0 0] 79)) ((ds.length + 8) / 9)
  simp only [World.size_alloc] at c0
  have r0 : (((w.alloc (.cells #[.bool false, .slice none 0 0] 79)).alloc (.cells (Go.madeCells #[.int .u64 0] ((ds.length + 8) / 9)) 73)).iter ⟨ds.toArray⟩ 0).heap[w.heap.size]? = some (.cells #[.bool false, .slice none 0 0] 79 (0, 0)) :=
    (Below.heap_alloc _ _ _ (by simp <;> omega)).trans ((Below.heap_alloc _ _ _ (by simp)).trans (World.alloc_heap_new w _))
  have r2 : (((w.alloc (.cells #[.bool false, .slice none 0 0] 79)).alloc (.cells (Go.madeCells #[.int .u64 0] ((ds.length + 8) / 9)) 73)).iter ⟨ds.toArray⟩ 0).heap[w.heap.size + 1 + 1]? = some (.stringIter ⟨ds.toArray⟩ 0) := by
    have := World.alloc_heap_new ((w.alloc (.cells #[.bool false, .slice none 0 0] 79)).alloc (.cells (Go.madeCells #[.int .u64 0] ((ds.length + 8) / 9)) 73)) (.stringIter ⟨ds.toArray⟩ 0)
    rwa [World.size_alloc, World.size_alloc] at this
  go_loopw [5] (fun _ wr => ∃ (k : Nat) (ws : List Nat), k ≤ ds.length ∧ wr.heap[w.heap.size]? = some (.cells #[.bool false, .slice none 0 0] 79 (0, 0)) ∧ wr.heap[w.heap.size + 1 + 1]? = some (.stringIter ⟨ds.toArray⟩ k)
      ∧ Hid (ReadI ds ws k) ∧ Own .u64 73 wr (w.heap.size + 1) ws ∧ Below w.heap.size w wr) (fun _ wr => ds.length - wr.iterPos (w.heap.size + 1 + 1))
  case atStart => exact ⟨0, _, Nat.zero_le _, r0, r2, ReadI.start ds a0, c0.below ((Below.refl _ _).alloc (Nat.le_refl _) _) (by simp), hB0⟩
  case round =>
    obtain ⟨k, ws, hk, hr, hit, hinv, hown, hB⟩ := hrel
    have hip := iterPos_of hit
    by_cases hlt : k < ds.length
    · have hsz : k < (⟨ds.toArray⟩ : ByteArray).size := by show k < ds.toArray.size; simpa using hlt
      have hb : (⟨ds.toArray⟩ : ByteArray)[k]'hsz = ds[k] := rfl
      obtain ⟨d1, d2⟩ := isDg_of (List.all_eq_true.1 HA.out _ (List.getElem_mem hlt))
      have hnext := fun ty => Lib.run_next_ascii_at (P := Tryd.prog) wr (w.heap.size + 1 + 1) ⟨ds.toArray⟩ k ty hit hsz (by show ds[k].toNat < 128; omega)
      rw [hb] at hnext
      obtain ⟨d, hd⟩ : ∃ d, ds[k].toNat = d + 48 := ⟨ds[k].toNat - 48, by omega⟩
      have hstep := ReadI.step (d := d) hinv.out hlt (by omega) (by omega)
      have hd10 : d < 10 := by omega
      rw [hd] at hnext
      have hgl : (ds.length - k - 1) / 9 < ws.length := by rw [hinv.out.1]; omega
      obtain ⟨g, hg⟩ : ∃ g, (ds.length - k - 1) / 9 = g := ⟨_, rfl⟩
      have hgi : ((ds.length : Int) - 1 - (k : Int)) / 9 = (g : Int) := by omega
      rw [hg] at hstep hgl
      obtain ⟨x, hx⟩ : ∃ x, ws[g]?.getD 0 = x := ⟨_, rfl⟩
      have hcell := (hown.iterAt (w.heap.size + 1 + 1) (by omega) ⟨ds.toArray⟩ (k + 1)).cell g hgl
      have hfz := (hown.iterAt (w.heap.size + 1 + 1) (by omega) ⟨ds.toArray⟩ (k + 1)).frozen g
      have hset := (hown.iterAt (w.heap.size + 1 + 1) (by omega) ⟨ds.toArray⟩ (k + 1)).set g (x * 10 + d)
      rw [hx] at hstep hcell
      have hwl : ws.length = (ds.length + 8) / 9 := hinv.out.1
      have hgn : g < (ds.length + 8) / 9 := by omega
      have hit2 := Lib.iterAt_heap wr (w.heap.size + 1 + 1) ⟨ds.toArray⟩ k (k + 1) hit
      have hr2 := (Lib.iterAt_other wr (w.heap.size + 1 + 1) w.heap.size ⟨ds.toArray⟩ (k + 1) (by omega)).trans hr
      have hB2 := Lib.below_iterAt hB (k := w.heap.size + 1 + 1) (by omega) ⟨ds.toArray⟩ (k + 1)
      have hx8 := hstep.1
      have HST := Lib.hid hstep.2
      have hcast : ((d + 48 : Nat) : Int) = (d : Int) + 48 := by omega
      have HIP := Lib.hid hip
      clear hstep hd hg hx hwl hgl hb d1 d2 hip hinv
      generalize wr.iterAt (w.heap.size + 1 + 1) ⟨ds.toArray⟩ (k + 1) = W2 at hnext hcell hfz hset hit2 hr2 hB2
      go_wp2
      go_roundw
      case rel =>
        have e1 : (x : Int) * 10 + (d : Int) = ((x * 10 + d : Nat) : Int) := by omega
        rw [e1]
        exact ⟨k + 1, _, by omega, (Below.heap_setCell _ _ _ _ (by simp)).trans hr2, (Below.heap_setCell _ _ _ _ (by simp)).trans hit2, HST.out, hset, hB2.setCell (by simp) _⟩
      case measure =>
        rw [HIP.out, iterPos_of ((Below.heap_setCell W2 ⟨w.heap.size + 1, g, none⟩ (.int .u64 ((x : Int) * 10 + (d : Int))) (w.heap.size + 1 + 1) (by simp)).trans hit2)]
        omega
    · obtain rfl : k = ds.length := by omega
      have hsz : ¬ ds.length < (⟨ds.toArray⟩ : ByteArray).size := by show ¬ ds.length < ds.toArray.size; simp
      have hnext := fun ty => Lib.run_next_end_at (P := Tryd.prog) wr (w.heap.size + 1 + 1) ⟨ds.toArray⟩ ds.length ty hit hsz
      obtain ⟨f1, f2, f3⟩ := hinv.out.finish
      have HF := Lib.hid (And.intro f1 (And.intro f2 f3))
      have hrd := hown.rd f1
      have q0 : wr.cell? ⟨w.heap.size, 0, none⟩ = some (.bool false) := by simp [World.cell?, hr]
      have q1 : wr.cell? ⟨w.heap.size, 1, none⟩ = some (.slice none 0 0) := by simp [World.cell?, hr]
      have q2 : wr.frozen? ⟨w.heap.size, 0, none⟩ = false := by simp [World.frozen?, hr]
      have q3 : wr.frozen? ⟨w.heap.size, 1, none⟩ = false := by simp [World.frozen?, hr]
      have hlt0 : w.heap.size < wr.heap.size := (Array.getElem?_eq_some_iff.1 hr).1
      have hdec : decide (ds.length < s.size) = ng := HN.out
      clear f1 f2 f3 hr
      go_wp2_with (first
        | (go_at_call 80; refine (trimmed_any _ _ _ ws _ (by unfold maxLen; omega) (Nat.le_refl _) hrd).mono ?_; rintro e w' ⟨rfl, rfl⟩)
        | (go_at_call 74; refine (signed_any _ _ _ _ _).mono ?_; rintro e w2 ⟨rfl, hb2⟩; obtain ⟨hc2, hf2⟩ := bcell hb2))
      have p0 : w2.cell? ⟨w.heap.size, 0, none⟩ = some (.bool false) := by rw [hc2 _ _ hlt0]; exact q0
      have p1 : w2.cell? ⟨w.heap.size, 1, none⟩ = some (.slice none 0 0) := by rw [hc2 _ _ hlt0]; exact q1
      obtain ⟨f1, f2, f3⟩ := HF.out
      obtain ⟨t0, t1, _⟩ := two_set (.bool (ng && decide (0 < trimLen ws ((ds.length + 8) / 9)))) (.slice (some ⟨w.heap.size + 1, 0, none⟩) (trimLen ws ((ds.length + 8) / 9)) (trimLen ws ((ds.length + 8) / 9))) p0 p1
      have hrz : Rd .u64 w2 (some ⟨w.heap.size + 1, 0, none⟩) (trimLen ws ((ds.length + 8) / 9)) (trimZ ws) := by
        unfold trimZ; rw [f1]; exact (hrd.take _ (trimLen_le _ _)).below hb2
      refine bodyPost_ret (v := .agg #[.bool (ng && decide (0 < trimLen ws ((ds.length + 8) / 9))), .slice (some ⟨w.heap.size + 1, 0, none⟩) (trimLen ws ((ds.length + 8) / 9)) (trimLen ws ((ds.length + 8) / 9))])
        (by simp [results, Tryd.results59, go_sem, t0, t1]) rfl ⟨_, _, _, _, trimZ ws, rfl, ?_, ?_⟩
      · refine ⟨hrz.two_set _ _ p0 p1, Nat.le_refl _, ?_, trimZ_cn f2, ?_, ?_⟩
        · have := trimLen_le ws ((ds.length + 8) / 9); omega
        · simp
        · have hsvz := sv_and ng (trimZ ws) (trimZ_cn f2)
          rw [hrz.1] at hsvz
          rw [hsvz, dv_trimZ, f3]; exact HS.out
      · exact ((hB.trans (hb2.mono (by omega))).setCell (by simp) _).setCell (by simp) _

end Go.Proofs.YtapfkinpdinbgaaDoor
