/-
  The reference: the integer of a string.
-/
import Derived.Test.YtapfkinpdinbgaaDoorRefText
namespace Go.Proofs.YtapfkinpdinbgaaDoor
open Go.RowKit

theorem decV_fold (b : List UInt8) : ∀ acc : Nat, b.foldl (fun a c => a * 10 + (c.toNat - 48)) acc = acc * 10 ^ b.length + decV b := by
  induction b with
  | nil => intro acc; simp [decV]
  | cons c b ih =>
    intro acc
    have h1 := ih (acc * 10 + (c.toNat - 48))
    have h2 := ih (0 * 10 + (c.toNat - 48))
    have h3 : decV (c :: b) = b.foldl (fun a c => a * 10 + (c.toNat - 48)) (0 * 10 + (c.toNat - 48)) := rfl
    rw [h3, h2, List.foldl_cons, h1, List.length_cons, Nat.pow_succ, Nat.add_mul, Nat.zero_mul, Nat.zero_add, Nat.mul_assoc, Nat.mul_comm 10, Nat.add_assoc]

theorem decV_append (a b : List UInt8) : decV (a ++ b) = decV a * 10 ^ b.length + decV b := by
  show (a ++ b).foldl _ 0 = _
  rw [List.foldl_append]
  exact decV_fold b _

theorem decV_bnd {l : List UInt8} (h : l.all isDg = true) : decV l < 10 ^ l.length := by
  induction l with
  | nil => simp [decV]
  | cons c l ih =>
    rw [List.all_cons, Bool.and_eq_true] at h
    have h1 := ih h.2
    obtain ⟨h3, h4⟩ := isDg_of h.1
    have h5 := decV_append [c] l
    have h6 : decV [c] = c.toNat - 48 := by simp [decV]
    rw [List.singleton_append, h6] at h5
    have h7 : (c.toNat - 48) * 10 ^ l.length ≤ 9 * 10 ^ l.length := Nat.mul_le_mul_right _ (by omega)
    rw [h5, List.length_cons, Nat.pow_succ]
    omega

theorem all_take' {l : List UInt8} (h : l.all isDg = true) (k : Nat) : (l.take k).all isDg = true := List.all_eq_true.2 fun x hx => List.all_eq_true.1 h x (List.mem_of_mem_take hx)
theorem all_drop' {l : List UInt8} (h : l.all isDg = true) (k : Nat) : (l.drop k).all isDg = true := List.all_eq_true.2 fun x hx => List.all_eq_true.1 h x (List.mem_of_mem_drop hx)

/-- Four digits at the end. -/
theorem decV_four {ds : List UInt8} (h : ds.all isDg = true) {k : Nat} (hk : k ≤ ds.length) : decV (ds.take k) / 10000 = decV (ds.take (k - 4)) ∧ decV (ds.take k) % 10000 = decV ((ds.drop (k - 4)).take (k - (k - 4))) := by
  have h1 : ds.take k = ds.take (k - 4) ++ (ds.drop (k - 4)).take (k - (k - 4)) := by
    conv => lhs; rw [show k = (k - 4) + (k - (k - 4)) by omega]
    rw [List.take_add]
  have h2 := decV_bnd (all_take' (all_drop' h (k - 4)) (k - (k - 4)))
  have h3 : ((ds.drop (k - 4)).take (k - (k - 4))).length = k - (k - 4) := by rw [List.length_take, List.length_drop]; omega
  rw [h3] at h2
  have h4 := decV_append (ds.take (k - 4)) ((ds.drop (k - 4)).take (k - (k - 4)))
  rw [← h1, h3] at h4
  rw [h4]
  by_cases h5 : 4 ≤ k
  · rw [show k - (k - 4) = 4 by omega] at h2 ⊢
    have h6 : (10 : Nat) ^ 4 = 10000 := by decide
    rw [h6] at h2 ⊢
    omega
  · have h6 : k - 4 = 0 := by omega
    rw [h6] at h2 ⊢
    have h7 : decV (ds.take 0) = 0 := by simp [decV]
    have h8 : (10 : Nat) ^ (k - 0) ≤ 10 ^ 4 := Nat.pow_le_pow_right (by decide) (by omega)
    have h9 : (10 : Nat) ^ 4 = 10000 := by decide
    rw [h7, Nat.zero_mul, Nat.zero_add]
    omega

/-- A part of the digits, one digit more. -/
theorem decV_seg {ds : List UInt8} {a i : Nat} (ha : a ≤ i) (hi : i < ds.length) : decV ((ds.drop a).take (i + 1 - a)) = decV ((ds.drop a).take (i - a)) * 10 + (ds[i].toNat - 48) := by
  have h1 : i + 1 - a = (i - a) + 1 := by omega
  have h2 : i - a < (ds.drop a).length := by rw [List.length_drop]; omega
  rw [h1, List.take_succ_eq_append_getElem h2, decV_snoc, List.getElem_drop]
  have h3 : a + (i - a) = i := by omega
  simp only [h3]

set_option maxRecDepth 100000 in
set_option maxHeartbeats 2000000 in
theorem rparse_core (neg : Bool) (l ds : List UInt8) (mi : Int) (w : World) (hl : ds.length ≤ 1000000000) (hds : ds.all isDg = true)
    (hmin : ∀ W, Calls Tryd.prog 45 #[.string ⟨l.toArray⟩] W fun e w' => e = .returned (.int .i64 mi) ∧ w' = W) (hmi : (mi == 1) = neg) (hm0 : 0 ≤ mi) (hm1 : mi ≤ 1)
    (hsl : ∀ W, (Instr.sliceAt 9 (.string ⟨l.toArray⟩) (some (.int .i64 mi)) none none).run Tryd.prog W = .ok (.string ⟨ds.toArray⟩) W) :
    Calls Tryd.prog 16 #[.string ⟨l.toArray⟩] w (RV w (sv neg (decV ds)) ds.length) := by
  have hsz : (⟨ds.toArray⟩ : ByteArray).size = ds.length := by show ds.toArray.size = _; simp
  have hb0 : Below w.heap.size w (w.alloc (.cells #[.bool false, .slice none 0 0] 29)) := (Below.refl _ w).alloc (Nat.le_refl _) _
  have b0 := Boxed2.new w (.bool false) (.slice none 0 0) 29
  have HDS := Lib.hid hds
  have HB := Lib.hid hb0
  have HB0 := Lib.hid b0
  have HM := Lib.hid hmin
  clear hds hmin hb0 b0
  go_enter Tryd.func16, Tryd.ntmps16
  go_wp2_with (go_at_call 45; refine (HM.out _).mono ?_; rintro e w' ⟨rfl, rfl⟩)
  obtain ⟨L, hL⟩ : ∃ L, ds.length = L := ⟨_, rfl⟩
  rw [hL] at hl hsz
  rw [hL]
  have HLL := Lib.hid hL
  generalize hw1 : w.alloc (.cells #[.bool false, .slice none 0 0] 29) = w1 at *
  have HW1 := Lib.hid hw1
  have hsz0 : w.heap.size + 1 ≤ w1.heap.size := by rw [← hw1]; simp
  clear hL hw1
  go_loopw [4, 5] (fun v4 v5 wr => ∃ (ti : Int) (ns : List Nat), ti ≤ (L : Int) ∧ -4 ≤ ti ∧ v5 = .int .i64 ti ∧ Hid (SplitI (decV ds) (decV (ds.take ti.toNat)) ns) ∧ ns.length + ti.toNat ≤ L ∧ GrI wr (w.heap.size + 1) v4 ns ∧ w.heap.size + 1 ≤ wr.heap.size ∧ Below (w.heap.size + 1) w1 wr) (fun _ v5 _ => (Go.RowKit.intOf v5).toNat)
  case atStart =>
    refine ⟨(L : Int), [], by omega, by omega, rfl, ⟨Dg.nil _, ?_⟩, by simp, GrI.nil _ _, hsz0, Below.refl _ _⟩
    rw [Int.toNat_natCast, List.take_of_length_le (by rw [HLL.out]; exact Nat.le_refl _)]
    simp [dv]
  case round =>
    obtain ⟨ti, ns, hti, hti4, rfl, HS, hns, hgr, hsz2, hb⟩ := hrel
    by_cases h0 : 0 < ti
    · obtain ⟨k, rfl⟩ : ∃ k : Nat, ti = (k : Int) := ⟨ti.toNat, by omega⟩
      rw [Int.toNat_natCast] at HS hns
      have hmax : max (0 : Int) ((k : Int) - 4) = ((k - 4 : Nat) : Int) := by omega
      obtain ⟨f1, f2⟩ := decV_four HDS.out (k := k) (by rw [HLL.out]; omega)
      have hst := HS.out.step
      rw [f1, f2] at hst
      have HST := Lib.hid hst
      have hka : k - 4 ≤ k := by omega
      have hka4 : k - (k - 4) ≤ 4 := by omega
      have hk4 : ((k : Int) - 4).toNat = k - 4 := by omega
      have HK4 := Lib.hid hk4
      have hlow : 0 < k := by omega
      generalize k - 4 = a at hmax HST hka hka4 HK4
      have HKA := Lib.hid hka4
      clear f1 f2 hst hka4 hk4
      go_wp2_with fail
      go_loop [6, 7] (fun v6 v7 => ∃ (i x : Nat), v7 = .int .i64 (i : Int) ∧ v6 = .int .i64 (x : Int) ∧ a ≤ i ∧ i ≤ k ∧ x ≤ 9999 ∧ Hid (decV ((ds.drop a).take (i - a)) = x)) (fun _ v7 => k - (Go.RowKit.intOf v7).toNat)
      case atStart => exact ⟨a, 0, rfl, rfl, Nat.le_refl _, hka, by omega, by show decV _ = 0; rw [Nat.sub_self]; simp [decV]⟩
      case round =>
        obtain ⟨i, x, rfl, rfl, hai, hik, hx, HX⟩ := hrel
        by_cases hlt : i < k
        · have hil : i < ds.length := by rw [HLL.out]; omega
          have his : i < (⟨ds.toArray⟩ : ByteArray).size := by rw [hsz]; omega
          have hbyte : (⟨ds.toArray⟩ : ByteArray)[i]'his = ds[i] := rfl
          obtain ⟨d1, d2⟩ := isDg_of (List.all_eq_true.1 HDS.out _ (List.getElem_mem hil))
          have hseg := decV_seg hai hil
          have hx999 : x ≤ 999 := by
            have h1 := decV_bnd (all_take' (all_drop' HDS.out a) (i - a))
            rw [HX.out] at h1
            have h2 : (10 : Nat) ^ ((ds.drop a).take (i - a)).length ≤ 10 ^ 3 := Nat.pow_le_pow_right (by decide) (by rw [List.length_take]; have := HKA.out; omega)
            have h3 : (10 : Nat) ^ 3 = 1000 := by decide
            omega
          obtain ⟨cc, hcc⟩ : ∃ cc : Nat, ds[i].toNat = cc := ⟨_, rfl⟩
          have hb' : ((⟨ds.toArray⟩ : ByteArray)[i]'his).toNat = cc := by rw [hbyte, hcc]
          rw [hcc] at hseg d1 d2
          rw [HX.out] at hseg
          have HSEG := Lib.hid hseg
          clear hseg hcc hbyte hx
          go_wp2_with fail
          go_round
          case rel => exact ⟨i + 1, x * 10 + (cc - 48), by go_num, by congr 1; omega, by omega, by omega, by omega, HSEG.out⟩
          case measure => simp [Go.RowKit.intOf]; omega
        · obtain rfl : i = k := by omega
          have hst := HST.out
          rw [HX.out] at hst
          have HST2 := Lib.hid hst
          clear hst
          go_wp2_with (at_builtin; refine pushI_law rfl _ _ rfl rfl hgr x rfl (by omega) hsz2 ?_; intro v' w' hgr' hb')
          go_roundw
          case rel =>
            refine ⟨(i : Int) - 4, ns ++ [x], by omega, by omega, rfl, ?_, ?_, hgr', Nat.le_trans hsz2 hb'.size, hb.trans hb'⟩
            · rw [HK4.out]; exact HST2.out
            · rw [HK4.out, List.length_append, List.length_singleton]; have := HK4.out; omega
          case measure => simp [Go.RowKit.intOf]; omega
    · have hto : ti.toNat = 0 := by omega
      rw [hto] at HS hns
      have hv : dv BR ns = decV ds := by have := HS.out.2; simpa [decV] using this
      have HDG := Lib.hid HS.out.1
      have HV := Lib.hid hv
      clear hto hv
      obtain ⟨p, c, rfl, hc, hrd⟩ := hgr.rd
      have hbx := HB0.out.below hb (by omega)
      have hbw := HB.out.trans (hb.mono (by omega))
      go_wp2_with (go_at_call 46; refine (rnumber_any _ _ _ _ ns _ (by unfold maxLen; omega) hc hrd HDG.out).mono ?_; rintro e w2 ⟨neg2, p2, n2, c2, xs2, rfl, hx2, hn2, hb2⟩; have b2 := hbx.below hb2 hbx.lt; have c20 := b2.cell0; have c21 := b2.cell1; have q20 := b2.frozen (i := 0); have q21 := b2.frozen (i := 1))
      have b3 := b2.set (.bool neg2) (.slice p2 n2 c2)
      have z0 := b3.cell0
      have z1 := b3.cell1
      refine bodyPost_ret (v := .agg #[.bool neg2, .slice p2 n2 c2]) (by simp [results, Tryd.results16, go_sem, z0, z1]) rfl ⟨neg2, p2, n2, c2, xs2, rfl, { rd := (hx2.rd.boxI b2 _).boxI (b2.set0 _) _, cap := hx2.cap, cn := hx2.cn, pos := hx2.pos, val := ?_ }, by have := HLL.out; omega, ((hbw.trans (hb2.mono hbw.size)).setCell (by simp) _).setCell (by simp) _⟩
      rw [← hx2.val, HV.out]

/-- The integer of a string that has the form. -/
theorem rparse_any (l : List UInt8) (w : World) (hl : l.length ≤ 1000000000) (hp : plainB l = true) :
    Calls Tryd.prog 16 #[.string ⟨l.toArray⟩] w (RV w (strV l) l.length) := by
  unfold plainB at hp
  simp only [Bool.and_eq_true] at hp
  have hds := hp.1.2
  cases l with
  | nil => simp [digitsOf] at hp
  | cons c t =>
    by_cases h : c = 45
    · subst h
      have hd : digitsOf (45 :: t) = t := by simp [digitsOf]
      rw [hd] at hds
      have hv : strV (45 :: t) = sv true (decV t) := by unfold strV; rw [hd]; simp [isNeg, sv]
      rw [hv]
      refine (rparse_core true (45 :: t) t 1 w (by simp at hl; omega) hds (fun W => (minus_any (45 :: t) W).mono ?_) rfl (by omega) (by omega) (fun W => ?_)).mono ?_
      · rintro e w' ⟨rfl, rfl⟩; exact ⟨rfl, rfl⟩
      · have hsz1 : (⟨((45 : UInt8) :: t).toArray⟩ : ByteArray).size = t.length + 1 := by show ((45 : UInt8) :: t).toArray.size = _; simp
        rw [run_sliceAt_string W 9 _ _ _ _ Tryd.underlying9, run_slice_string_l W 9 _ Tryd.underlying9 .i64 (1 : Int) (by omega) (by rw [hsz1]; omega)]
        exact congrArg (fun b => Result.ok (Value.string b) W) (tail_bytes 45 t)
      · rintro e w' ⟨n1, p1, n2, c1, xs, h1, h2, h3, h4⟩
        exact ⟨n1, p1, n2, c1, xs, h1, h2, by simp; omega, h4⟩
    · have hd : digitsOf (c :: t) = c :: t := by simp [digitsOf, h]
      have hn : isNeg (c :: t) = false := by simp [isNeg, h]
      rw [hd] at hds
      have hv : strV (c :: t) = sv false (decV (c :: t)) := by unfold strV; rw [hd, hn]; simp [sv]
      rw [hv]
      refine (rparse_core false (c :: t) (c :: t) 0 w hl hds (fun W => (minus_any (c :: t) W).mono ?_) rfl (by omega) (by omega) (fun W => ?_))
      · rintro e w' ⟨rfl, rfl⟩; rw [hn]; exact ⟨rfl, rfl⟩
      · rw [run_sliceAt_string W 9 _ _ _ _ Tryd.underlying9, run_slice_string_l W 9 _ Tryd.underlying9 .i64 (0 : Int) (by omega) (by omega)]
        refine congrArg (fun b => Result.ok (Value.string b) W) ?_
        apply ByteArray.ext
        simp

end Go.Proofs.YtapfkinpdinbgaaDoor
