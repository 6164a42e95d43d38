/-
  The reference: the integer of a string; A number out of any text; What is written is read. Plain; The reference's Long; the laws' 'form'; The reference: products; What the calls of the laws hand back, for lists of bytes; A map from uint to numbers, as a function; What a determinant's closure keeps in memory; wide.power, wide.Pow; the reference's Pow; A number has one text.
-/
import Derived.Lib.ItoaLen
import Derived.Maps.OwnSet
import Derived.Maps.Views
import Derived.Test.YtimcbmgmngkagaaDoorK1
import Derived.Test.YtimcbmgmngkagaaDoorK2
import Derived.Test.YtimcbmgmngkagaaDoorK3
import Derived.Test.YtimcbmgmngkagaaDoorK4
import Derived.Test.YtimcbmgmngkagaaDoorK5
import Derived.Test.YtimcbmgmngkagaaDoorK6
import Derived.Test.YtimcbmgmngkagaaDoorK7
import Derived.Test.YtimcbmgmngkagaaDoorK8
namespace Go.Proofs.YtimcbmgmngkagaaDoor
open Go.RowKit

theorem decV_fold (b : List UInt8) : ∀ acc : Nat, b.foldl (fun a c => a * 10 + (c.toNat - 48)) acc = acc * 10 ^ b.length + decV b := by
  induction b with
  | nil => intro acc; simp [decV]
  | cons c b ih =>
    intro acc
    have h1 := ih (acc * 10 + (c.toNat - 48))
    have h2 := ih (0 * 10 + (c.toNat - 48))
    have h3 : decV (c :: b) = b.foldl (fun a c => a * 10 + (c.toNat - 48)) (0 * 10 + (c.toNat - 48)) := rfl
    rw [h3, h2, List.foldl_cons, h1, List.length_cons, Nat.pow_succ, Nat.add_mul, Nat.zero_mul, Nat.zero_add, Nat.mul_assoc, Nat.mul_comm 10, Nat.add_assoc]

theorem decV_append (a b : List UInt8) : decV (a ++ b) = decV a * 10 ^ b.length + decV b := by
  show (a ++ b).foldl _ 0 = _
  rw [List.foldl_append]
  exact decV_fold b _

theorem decV_bnd {l : List UInt8} (h : l.all isDg = true) : decV l < 10 ^ l.length := by
  induction l with
  | nil => simp [decV]
  | cons c l ih =>
    rw [List.all_cons, Bool.and_eq_true] at h
    have h1 := ih h.2
    obtain ⟨h3, h4⟩ := isDg_of h.1
    have h5 := decV_append [c] l
    have h6 : decV [c] = c.toNat - 48 := by simp [decV]
    rw [List.singleton_append, h6] at h5
    have h7 : (c.toNat - 48) * 10 ^ l.length ≤ 9 * 10 ^ l.length := Nat.mul_le_mul_right _ (by omega)
    rw [h5, List.length_cons, Nat.pow_succ]
    omega

theorem all_take' {l : List UInt8} (h : l.all isDg = true) (k : Nat) : (l.take k).all isDg = true := List.all_eq_true.2 fun x hx => List.all_eq_true.1 h x (List.mem_of_mem_take hx)
theorem all_drop' {l : List UInt8} (h : l.all isDg = true) (k : Nat) : (l.drop k).all isDg = true := List.all_eq_true.2 fun x hx => List.all_eq_true.1 h x (List.mem_of_mem_drop hx)

/-- Four digits at the end. -/
theorem decV_four {ds : List UInt8} (h : ds.all isDg = true) {k : Nat} (hk : k ≤ ds.length) : decV (ds.take k) / 10000 = decV (ds.take (k - 4)) ∧ decV (ds.take k) % 10000 = decV ((ds.drop (k - 4)).take (k - (k - 4))) := by
  have h1 : ds.take k = ds.take (k - 4) ++ (ds.drop (k - 4)).take (k - (k - 4)) := by
    conv => lhs; rw [show k = (k - 4) + (k - (k - 4)) by omega]
    rw [List.take_add]
  have h2 := decV_bnd (all_take' (all_drop' h (k - 4)) (k - (k - 4)))
  have h3 : ((ds.drop (k - 4)).take (k - (k - 4))).length = k - (k - 4) := by rw [List.length_take, List.length_drop]; omega
  rw [h3] at h2
  have h4 := decV_append (ds.take (k - 4)) ((ds.drop (k - 4)).take (k - (k - 4)))
  rw [← h1, h3] at h4
  rw [h4]
  by_cases h5 : 4 ≤ k
  · rw [show k - (k - 4) = 4 by omega] at h2 ⊢
    have h6 : (10 : Nat) ^ 4 = 10000 := by decide
    rw [h6] at h2 ⊢
    omega
  · have h6 : k - 4 = 0 := by omega
    rw [h6] at h2 ⊢
    have h7 : decV (ds.take 0) = 0 := by simp [decV]
    have h8 : (10 : Nat) ^ (k - 0) ≤ 10 ^ 4 := Nat.pow_le_pow_right (by decide) (by omega)
    have h9 : (10 : Nat) ^ 4 = 10000 := by decide
    rw [h7, Nat.zero_mul, Nat.zero_add]
    omega

/-- A part of the digits, one digit more. -/
theorem decV_seg {ds : List UInt8} {a i : Nat} (ha : a ≤ i) (hi : i < ds.length) : decV ((ds.drop a).take (i + 1 - a)) = decV ((ds.drop a).take (i - a)) * 10 + (ds[i].toNat - 48) := by
  have h1 : i + 1 - a = (i - a) + 1 := by omega
  have h2 : i - a < (ds.drop a).length := by rw [List.length_drop]; omega
  rw [h1, List.take_succ_eq_append_getElem h2, decV_snoc, List.getElem_drop]
  have h3 : a + (i - a) = i := by omega
  simp only [h3]

set_option maxRecDepth 100000 in
set_option maxHeartbeats 2000000 in
theorem rparse_core (neg : Bool) (l ds : List UInt8) (mi : Int) (w : World) (hl : ds.length ≤ 1000000000) (hds : ds.all isDg = true)
    (hmin : ∀ W, Calls Tryd.prog 28 #[.string ⟨l.toArray⟩] W fun e w' => e = .returned (.int .i64 mi) ∧ w' = W) (hmi : (mi == 1) = neg) (hm0 : 0 ≤ mi) (hm1 : mi ≤ 1)
    (hsl : ∀ W, (Instr.sliceAt 9 (.string ⟨l.toArray⟩) (some (.int .i64 mi)) none none).run Tryd.prog W = .ok (.string ⟨ds.toArray⟩) W) :
    Calls Tryd.prog 13 #[.string ⟨l.toArray⟩] w (RV w (sv neg (decV ds)) ds.length) := by
  have hsz : (⟨ds.toArray⟩ : ByteArray).size = ds.length := by show ds.toArray.size = _; simp
  have hb0 : Below w.heap.size w (w.alloc (.cells #[.bool false, .slice none 0 0] 35)) := (Below.refl _ w).alloc (Nat.le_refl _) _
  have b0 := Boxed2.new w (.bool false) (.slice none 0 0) 35
  have HDS := Lib.hid hds
  have HB := Lib.hid hb0
  have HB0 := Lib.hid b0
  have HM := Lib.hid hmin
  clear hds hmin hb0 b0
  go_enter Tryd.func13, Tryd.ntmps13
  go_wp2_with (go_at_call 28; refine (HM.out _).mono ?_; rintro e w' ⟨rfl, rfl⟩)
  obtain ⟨L, hL⟩ : ∃ L, ds.length = L := ⟨_, rfl⟩
  rw [hL] at hl hsz
  rw [hL]
  have HLL := Lib.hid hL
  generalize hw1 : w.alloc (.cells #[.bool false, .slice none 0 0] 35) = w1 at *
  have HW1 := Lib.hid hw1
  have hsz0 : w.heap.size + 1 ≤ w1.heap.size := by rw [← hw1]; simp
  clear hL hw1
  go_loopw [4, 5] (fun v4 v5 wr => ∃ (ti : Int) (ns : List Nat), ti ≤ (L : Int) ∧ -4 ≤ ti ∧ v5 = .int .i64 ti ∧ Hid (SplitI (decV ds) (decV (ds.take ti.toNat)) ns) ∧ ns.length + ti.toNat ≤ L ∧ GrI wr (w.heap.size + 1) v4 ns ∧ w.heap.size + 1 ≤ wr.heap.size ∧ Below (w.heap.size + 1) w1 wr) (fun _ v5 _ => (Go.RowKit.intOf v5).toNat)
  case atStart =>
    refine ⟨(L : Int), [], by omega, by omega, rfl, ⟨Dg.nil _, ?_⟩, by simp, GrI.nil _ _, hsz0, Below.refl _ _⟩
    rw [Int.toNat_natCast, List.take_of_length_le (by rw [HLL.out]; exact Nat.le_refl _)]
    simp [dv]
  case round =>
    obtain ⟨ti, ns, hti, hti4, rfl, HS, hns, hgr, hsz2, hb⟩ := hrel
    by_cases h0 : 0 < ti
    · obtain ⟨k, rfl⟩ : ∃ k : Nat, ti = (k : Int) := ⟨ti.toNat, by omega⟩
      rw [Int.toNat_natCast] at HS hns
      have hmax : max (0 : Int) ((k : Int) - 4) = ((k - 4 : Nat) : Int) := by omega
      obtain ⟨f1, f2⟩ := decV_four HDS.out (k := k) (by rw [HLL.out]; omega)
      have hst := HS.out.step
      rw [f1, f2] at hst
      have HST := Lib.hid hst
      have hka : k - 4 ≤ k := by omega
      have hka4 : k - (k - 4) ≤ 4 := by omega
      have hk4 : ((k : Int) - 4).toNat = k - 4 := by omega
      have HK4 := Lib.hid hk4
      have hlow : 0 < k := by omega
      generalize k - 4 = a at hmax HST hka hka4 HK4
      have HKA := Lib.hid hka4
      clear f1 f2 hst hka4 hk4
      go_wp2_with fail
      go_loop [6, 7] (fun v6 v7 => ∃ (i x : Nat), v7 = .int .i64 (i : Int) ∧ v6 = .int .i64 (x : Int) ∧ a ≤ i ∧ i ≤ k ∧ x ≤ 9999 ∧ Hid (decV ((ds.drop a).take (i - a)) = x)) (fun _ v7 => k - (Go.RowKit.intOf v7).toNat)
      case atStart => exact ⟨a, 0, rfl, rfl, Nat.le_refl _, hka, by omega, by show decV _ = 0; rw [Nat.sub_self]; simp [decV]⟩
      case round =>
        obtain ⟨i, x, rfl, rfl, hai, hik, hx, HX⟩ := hrel
        by_cases hlt : i < k
        · have hil : i < ds.length := by rw [HLL.out]; omega
          have his : i < (⟨ds.toArray⟩ : ByteArray).size := by rw [hsz]; omega
          have hbyte : (⟨ds.toArray⟩ : ByteArray)[i]'his = ds[i] := rfl
          obtain ⟨d1, d2⟩ := isDg_of (List.all_eq_true.1 HDS.out _ (List.getElem_mem hil))
          have hseg := decV_seg hai hil
          have hx999 : x ≤ 999 := by
            have h1 := decV_bnd (all_take' (all_drop' HDS.out a) (i - a))
            rw [HX.out] at h1
            have h2 : (10 : Nat) ^ ((ds.drop a).take (i - a)).length ≤ 10 ^ 3 := Nat.pow_le_pow_right (by decide) (by rw [List.length_take]; have := HKA.out; omega)
            have h3 : (10 : Nat) ^ 3 = 1000 := by decide
            omega
          obtain ⟨cc, hcc⟩ : ∃ cc : Nat, ds[i].toNat = cc := ⟨_, rfl⟩
          have hb' : ((⟨ds.toArray⟩ : ByteArray)[i]'his).toNat = cc := by rw [hbyte, hcc]
          rw [hcc] at hseg d1 d2
          rw [HX.out] at hseg
          have HSEG := Lib.hid hseg
          clear hseg hcc hbyte hx
          go_wp2_with fail
          go_round
          case rel => exact ⟨i + 1, x * 10 + (cc - 48), by go_num, by congr 1; omega, by omega, by omega, by omega, HSEG.out⟩
          case measure => simp [Go.RowKit.intOf]; omega
        · obtain rfl : i = k := by omega
          have hst := HST.out
          rw [HX.out] at hst
          have HST2 := Lib.hid hst
          clear hst
          go_wp2_with (at_builtin; refine pushI_law rfl _ _ rfl rfl hgr x rfl (by omega) hsz2 ?_; intro v' w' hgr' hb')
          go_roundw
          case rel =>
            refine ⟨(i : Int) - 4, ns ++ [x], by omega, by omega, rfl, ?_, ?_, hgr', Nat.le_trans hsz2 hb'.size, hb.trans hb'⟩
            · rw [HK4.out]; exact HST2.out
            · rw [HK4.out, List.length_append, List.length_singleton]; have := HK4.out; omega
          case measure => simp [Go.RowKit.intOf]; omega
    · have hto : ti.toNat = 0 := by omega
      rw [hto] at HS hns
      have hv : dv BR ns = decV ds := by have := HS.out.2; simpa [decV] using this
      have HDG := Lib.hid HS.out.1
      have HV := Lib.hid hv
      clear hto hv
      obtain ⟨p, c, rfl, hc, hrd⟩ := hgr.rd
      have hbx := HB0.out.below hb (by omega)
      have hbw := HB.out.trans (hb.mono (by omega))
      go_wp2_with (go_at_call 27; refine (rnumber_any _ _ _ _ ns _ (by unfold maxLen; omega) hc hrd HDG.out).mono ?_; rintro e w2 ⟨neg2, p2, n2, c2, xs2, rfl, hx2, hn2, hb2⟩; have b2 := hbx.below hb2 hbx.lt; have c20 := b2.cell0; have c21 := b2.cell1; have q20 := b2.frozen (i := 0); have q21 := b2.frozen (i := 1))
      have b3 := b2.set (.bool neg2) (.slice p2 n2 c2)
      have z0 := b3.cell0
      have z1 := b3.cell1
      refine bodyPost_ret (v := .agg #[.bool neg2, .slice p2 n2 c2]) (by simp [results, Tryd.results13, go_sem, z0, z1]) rfl ⟨neg2, p2, n2, c2, xs2, rfl, { rd := (hx2.rd.boxI b2 _).boxI (b2.set0 _) _, cap := hx2.cap, cn := hx2.cn, pos := hx2.pos, val := ?_ }, by have := HLL.out; omega, ((hbw.trans (hb2.mono hbw.size)).setCell (by simp) _).setCell (by simp) _⟩
      rw [← hx2.val, HV.out]

/-- The integer of a string that has the form. -/
theorem rparse_any (l : List UInt8) (w : World) (hl : l.length ≤ 1000000000) (hp : plainB l = true) :
    Calls Tryd.prog 13 #[.string ⟨l.toArray⟩] w (RV w (strV l) l.length) := by
  unfold plainB at hp
  simp only [Bool.and_eq_true] at hp
  have hds := hp.1.2
  cases l with
  | nil => simp [digitsOf] at hp
  | cons c t =>
    by_cases h : c = 45
    · subst h
      have hd : digitsOf (45 :: t) = t := by simp [digitsOf]
      rw [hd] at hds
      have hv : strV (45 :: t) = sv true (decV t) := by unfold strV; rw [hd]; simp [isNeg, sv]
      rw [hv]
      refine (rparse_core true (45 :: t) t 1 w (by simp at hl; omega) hds (fun W => (minus_any (45 :: t) W).mono ?_) rfl (by omega) (by omega) (fun W => ?_)).mono ?_
      · rintro e w' ⟨rfl, rfl⟩; exact ⟨rfl, rfl⟩
      · have hsz1 : (⟨((45 : UInt8) :: t).toArray⟩ : ByteArray).size = t.length + 1 := by show ((45 : UInt8) :: t).toArray.size = _; simp
        rw [run_sliceAt_string W 9 _ _ _ _ Tryd.underlying9, run_slice_string_l W 9 _ Tryd.underlying9 .i64 (1 : Int) (by omega) (by rw [hsz1]; omega)]
        exact congrArg (fun b => Result.ok (Value.string b) W) (tail_bytes 45 t)
      · rintro e w' ⟨n1, p1, n2, c1, xs, h1, h2, h3, h4⟩
        exact ⟨n1, p1, n2, c1, xs, h1, h2, by simp; omega, h4⟩
    · have hd : digitsOf (c :: t) = c :: t := by simp [digitsOf, h]
      have hn : isNeg (c :: t) = false := by simp [isNeg, h]
      rw [hd] at hds
      have hv : strV (c :: t) = sv false (decV (c :: t)) := by unfold strV; rw [hd, hn]; simp [sv]
      rw [hv]
      refine (rparse_core false (c :: t) (c :: t) 0 w hl hds (fun W => (minus_any (c :: t) W).mono ?_) rfl (by omega) (by omega) (fun W => ?_))
      · rintro e w' ⟨rfl, rfl⟩; rw [hn]; exact ⟨rfl, rfl⟩
      · rw [run_sliceAt_string W 9 _ _ _ _ Tryd.underlying9, run_slice_string_l W 9 _ Tryd.underlying9 .i64 (0 : Int) (by omega) (by omega)]
        refine congrArg (fun b => Result.ok (Value.string b) W) ?_
        apply ByteArray.ext
        simp

end Go.Proofs.YtimcbmgmngkagaaDoor

namespace Go.Proofs.YtimcbmgmngkagaaDoor
open Go.RowKit

end Go.Proofs.YtimcbmgmngkagaaDoor

namespace Go.Proofs.YtimcbmgmngkagaaDoor
open Go.RowKit

/-- What has been written: digits, no 0 in front. -/
def ClnI (most i : Nat) (o : List UInt8) : Prop := o.all isDg = true ∧ o.head? ≠ some 48 ∧ o.length ≤ most ∧ o.length ≤ i

theorem ClnI.skip {most i : Nat} {o : List UInt8} (h : ClnI most i o) : ClnI most (i + 1) o := ⟨h.1, h.2.1, h.2.2.1, by have := h.2.2.2; omega⟩

theorem ClnI.push {most i d : Nat} {o : List UInt8} (h : ClnI most i o) (hd : d < 10) (hlt : o.length < most) (hp : 0 < d ∨ 0 < o.length) : ClnI most (i + 1) (o ++ [UInt8.ofNat (48 + d)]) := by
  obtain ⟨h1, h2, h3, h4⟩ := h
  have ht : (UInt8.ofNat (48 + d)).toNat = 48 + d := by simp; omega
  refine ⟨?_, ?_, by simp; omega, by simp; omega⟩
  · rw [List.all_append, h1]; simp [isDg, ht]; omega
  · cases o with
    | nil =>
      have hp' : 0 < d := by simpa using hp
      rw [List.nil_append]
      intro e
      have h5 := congrArg UInt8.toNat (Option.some.inj (show some (UInt8.ofNat (48 + d)) = some 48 from e))
      rw [ht] at h5
      have h6 : (48 : UInt8).toNat = 48 := rfl
      omega
    | cons c t => simpa using h2

/-- A number of at most so many digits. -/
def CleanIs (most : Nat) (l : List UInt8) : Prop := numB l = true ∧ (digitsOf l).length ≤ most ∧ l.length ≤ most + 1

theorem clean_zero {most : Nat} (h : 1 ≤ most) : CleanIs most [48] := ⟨by decide, by simp [digitsOf]; omega, by simp⟩

theorem clean_of {most i : Nat} {o : List UInt8} (h : ClnI most i o) (hm : most ≤ 2000) (hne : o ≠ []) : CleanIs most o ∧ CleanIs most (45 :: o) := by
  obtain ⟨h1, h2, h3, _⟩ := h
  cases o with
  | nil => exact absurd rfl hne
  | cons c t =>
    have hc : c ≠ 45 := by
      rintro rfl
      rw [List.all_cons] at h1
      simp [isDg] at h1
    have hd : digitsOf (c :: t) = c :: t := by simp [digitsOf, hc]
    have hd2 : digitsOf (45 :: c :: t) = c :: t := by simp [digitsOf]
    have h48 : ((c :: t).head? != some 48) = true := by simpa using h2
    refine ⟨⟨?_, by rw [hd]; exact h3, by omega⟩, ⟨?_, by rw [hd2]; exact h3, by simp at h3 ⊢; omega⟩⟩
    · unfold numB plainB; rw [hd, h1, h48]; simp at h3 ⊢; omega
    · unfold numB plainB; rw [hd2, h1, h48]; simp at h3 ⊢; omega

set_option maxRecDepth 100000 in
set_option maxHeartbeats 2000000 in
theorem clean_any (l : List UInt8) (most : Nat) (w : World) (hl : l.length ≤ 9223372036854775807) (hm1 : 1 ≤ most) (hm : most ≤ 2000) :
    Calls Tryd.prog 5 #[.string ⟨l.toArray⟩, .int .i64 (most : Int)] w fun e w' => (∃ l', CleanIs most l' ∧ e = .returned (.string ⟨l'.toArray⟩)) ∧ Below w.heap.size w w' := by
  have hsz : (⟨l.toArray⟩ : ByteArray).size = l.length := by show l.toArray.size = _; simp
  obtain ⟨L, hL⟩ : ∃ L, l.length = L := ⟨_, rfl⟩
  rw [hL] at hl hsz
  have HL := Lib.hid hL
  clear hL
  go_enter Tryd.func5, Tryd.ntmps5
  go_wp2_with fail
  go_loopw [5, 6] (fun v5 v6 wr => ∃ (i : Nat) (o : List UInt8), i ≤ L ∧ v6 = .int .i64 (i : Int) ∧ Hid (ClnI most i o) ∧ GrB wr w.heap.size v5 o ∧ w.heap.size ≤ wr.heap.size ∧ Below w.heap.size w wr) (fun _ v6 _ => L - (Go.RowKit.intOf v6).toNat)
  case atStart => exact ⟨0, [], Nat.zero_le _, rfl, ⟨rfl, by simp, Nat.zero_le _, Nat.le_refl _⟩, GrB.nil _ _, Nat.le_refl _, Below.refl _ _⟩
  case round =>
    obtain ⟨i, o, hi, rfl, HC, hgr, hsz2, hb⟩ := hrel
    obtain ⟨pp, cp, rfl⟩ := hgr.form
    have hol := HC.out.2.2.1
    by_cases hgo : i < L ∧ o.length < most
    · obtain ⟨hlt, hom⟩ := hgo
      have his : i < (⟨l.toArray⟩ : ByteArray).size := by rw [hsz]; exact hlt
      obtain ⟨bb, hbb⟩ : ∃ bb : Nat, ((⟨l.toArray⟩ : ByteArray)[i]'his).toNat = bb := ⟨_, rfl⟩
      have hb256 : bb < 256 := by rw [← hbb]; exact UInt8.toNat_lt _
      have hmod : (bb : Int) % 10 = ((bb % 10 : Nat) : Int) := by omega
      have hd10 : bb % 10 < 10 := Nat.mod_lt _ (by decide)
      generalize bb % 10 = d at hmod hd10
      have hd48 : (48 : Int) + (d : Int) = ((48 + d : Nat) : Int) := by omega
      have hil : (i : Int) < (L : Int) := by omega
      have hol' : (o.length : Int) < (most : Int) := by omega
      have HPU := fun h => HC.out.push hd10 hom h
      have HPH := Lib.hid HPU
      have HSK := Lib.hid HC.out.skip
      clear HPU
      have hd256 : 48 + d < 256 := by omega
      by_cases hz : d = 0 ∧ o.length = 0
      · obtain ⟨rfl, ho0⟩ := hz
        obtain rfl : o = [] := List.length_eq_zero_iff.1 ho0
        clear hd48 hd256
        have hl0 : ([] : List UInt8).length = 0 := rfl
        go_wp2_with fail
        go_roundw
        case rel => exact ⟨i + 1, [], by omega, by go_num, HSK.out, hgr, hsz2, hb⟩
        case measure => simp [Go.RowKit.intOf]; omega
      · have hpp : 0 < d ∨ 0 < o.length := by omega
        have HPP := Lib.hid (HPH.out hpp)
        by_cases hd0 : d = 0
        · subst hd0
          have hl0 : 0 < o.length := by omega
          have HPP' : Hid (ClnI most (i + 1) (o ++ [UInt8.ofNat 48])) := HPP.out
          clear hz hpp hd48 hd256
          go_wp2_with (at_builtin; refine pushB_law rfl _ _ rfl rfl hgr 48 (by decide) rfl (by omega) hsz2 ?_; intro v' w' hgr' hb')
          go_roundw
          case rel => exact ⟨i + 1, o ++ [UInt8.ofNat 48], by omega, by go_num, HPP'.out, hgr', Nat.le_trans hsz2 hb'.size, hb.trans hb'⟩
          case measure => simp [Go.RowKit.intOf]; omega
        · have hc48 : (48 : Int) < ((48 + d : Nat) : Int) := by omega
          generalize h8 : 48 + d = d8 at hd48 hd256 HPP hc48
          have hd0' : 0 < d := by omega
          clear hz hpp hd0 h8
          go_wp2_with (at_builtin; refine pushB_law rfl _ _ rfl rfl hgr d8 hd256 rfl (by omega) hsz2 ?_; intro v' w' hgr' hb')
          go_roundw
          case rel => exact ⟨i + 1, o ++ [UInt8.ofNat d8], by omega, by go_num, HPP.out, hgr', Nat.le_trans hsz2 hb'.size, hb.trans hb'⟩
          case measure => simp [Go.RowKit.intOf]; omega
    · have hfin : ∀ e W, e = Ending.returned (.string ⟨(if o.length = 0 then [48] else o).toArray⟩) ∨ (o.length ≠ 0 ∧ e = Ending.returned (.string ⟨(45 :: o).toArray⟩)) → Below w.heap.size w W → ((∃ l', CleanIs most l' ∧ e = .returned (.string ⟨l'.toArray⟩)) ∧ Below w.heap.size w W) := by
        intro e W he hW
        refine ⟨?_, hW⟩
        by_cases ho : o = []
        · subst ho
          rcases he with rfl | ⟨h, _⟩
          · exact ⟨[48], clean_zero hm1, rfl⟩
          · exact absurd rfl h
        · have ho' : o.length ≠ 0 := fun h => ho (List.length_eq_zero_iff.1 h)
          obtain ⟨c1, c2⟩ := clean_of HC.out hm ho
          rcases he with rfl | ⟨_, rfl⟩
          · rw [if_neg ho']; exact ⟨o, c1, rfl⟩
          · exact ⟨45 :: o, c2, rfl⟩
      have HFIN := Lib.hid hfin
      clear hfin
      by_cases ho0 : o.length = 0
      · by_cases hiL : i < L
        · have hom : ¬ (o.length < most) := fun h => hgo ⟨hiL, h⟩
          omega
        · have hz0 : ((o.length : Int) == 0) = true := by simp; exact List.length_eq_zero_iff.1 ho0
          have hiL' : ¬ ((i : Int) < (L : Int)) := by omega
          have HO := Lib.hid ho0
          clear hgo ho0 hiL
          go_wp2_with fail
          go_ret
          exact HFIN.out _ _ (.inl (by rw [if_pos HO.out]; rfl)) hb
      · have hz0 : ((o.length : Int) == 0) = false := by simp; intro e; exact ho0 (by rw [e]; rfl)
        have hL0 : 0 < L := by have := HC.out.2.2.2; omega
        have hls : 0 < (⟨l.toArray⟩ : ByteArray).size := by rw [hsz]; exact hL0
        obtain ⟨b0, hb0⟩ : ∃ b0 : Nat, ((⟨l.toArray⟩ : ByteArray)[0]'hls).toNat = b0 := ⟨_, rfl⟩
        have hb256 : b0 < 256 := by rw [← hb0]; exact UInt8.toNat_lt _
        have hcv := text_convert hgr (fun e => ho0 (by rw [e]; rfl))
        have HO := Lib.hid ho0
        have hmod3 : (b0 : Int) % 3 = ((b0 % 3 : Nat) : Int) := by omega
        generalize b0 % 3 = r3 at hmod3
        have hov : ¬ (9223372036854775807 < 1 + o.length) := by omega
        by_cases hi : i < L
        · have hno : ¬ (o.length < most) := fun h => hgo ⟨hi, h⟩
          have hom : ¬ ((o.length : Int) < (most : Int)) := by omega
          have hiL' : (i : Int) < (L : Int) := by omega
          clear hgo ho0 hno
          by_cases h3 : r3 = 0
          · subst h3
            go_wp2_with fail
            go_ret
            exact HFIN.out _ _ (.inr ⟨HO.out, ret_val (congrArg Value.string (by apply ByteArray.ext; simp))⟩) hb
          · have h3z : ((r3 : Int) == 0) = false := by simp; omega
            go_wp2_with fail
            go_ret
            exact HFIN.out _ _ (.inl (by rw [if_neg HO.out]; rfl)) hb
        · have hiL' : ¬ ((i : Int) < (L : Int)) := by omega
          clear hgo ho0
          by_cases h3 : r3 = 0
          · subst h3
            go_wp2_with fail
            go_ret
            exact HFIN.out _ _ (.inr ⟨HO.out, ret_val (congrArg Value.string (by apply ByteArray.ext; simp))⟩) hb
          · have h3z : ((r3 : Int) == 0) = false := by simp; omega
            go_wp2_with fail
            go_ret
            exact HFIN.out _ _ (.inl (by rw [if_neg HO.out]; rfl)) hb

end Go.Proofs.YtimcbmgmngkagaaDoor

namespace Go.Proofs.YtimcbmgmngkagaaDoor
open Go.Lib

theorem dec_says (u : Nat) : (decDigits u).all isDg = true ∧ decV (decDigits u) = u ∧ decDigits u ≠ [] ∧ (0 < u → (decDigits u).head? ≠ some 48) := by
  induction u using Nat.strongRecOn with
  | _ u ih =>
    have key : ∀ d, d < 10 → (UInt8.ofNat (48 + d)).toNat = 48 + d := fun d hd => by simp; omega
    by_cases h : u < 10
    · have e : decDigits u = [UInt8.ofNat (48 + u)] := by rw [decDigits.eq_1, dif_pos h]
      have k := key u h
      rw [e]
      refine ⟨?_, ?_, by simp, fun h0 => ?_⟩
      · rw [List.all_cons, List.all_nil, Bool.and_true]; unfold isDg; rw [k]; simp; omega
      · unfold decV; rw [List.foldl_cons, List.foldl_nil, k]; omega
      · intro e2
        have h5 := congrArg UInt8.toNat (Option.some.inj (show some (UInt8.ofNat (48 + u)) = some 48 from e2))
        rw [k] at h5
        have h6 : (48 : UInt8).toNat = 48 := rfl
        omega
    · have e : decDigits u = decDigits (u / 10) ++ [UInt8.ofNat (48 + u % 10)] := by rw [decDigits.eq_1, dif_neg h]
      obtain ⟨h1, h2, h3, h4⟩ := ih (u / 10) (by omega)
      have k := key (u % 10) (by omega)
      rw [e]
      refine ⟨?_, ?_, by simp, fun h0 => ?_⟩
      · rw [List.all_append, h1, List.all_cons, List.all_nil, Bool.and_true, Bool.true_and]; unfold isDg; rw [k]; simp; omega
      · rw [decV_snoc, h2, k]; omega
      · cases hd : decDigits (u / 10) with
        | nil => exact absurd hd h3
        | cons c t => have := h4 (by omega); rw [hd] at this; simpa using this

theorem itoa_says (z : Int) : plainB (itoa z) = true ∧ strV (itoa z) = z ∧ (digitsOf (itoa z)).length = nDigits z.natAbs := by
  by_cases h : 0 ≤ z
  · obtain ⟨u, rfl⟩ : ∃ u : Nat, z = (u : Int) := ⟨z.toNat, by omega⟩
    obtain ⟨h1, h2, h3, h4⟩ := dec_says u
    rw [itoa_nonneg]
    have h0 : u = 0 → decDigits u = [48] := fun e => by rw [e]; decide +kernel
    have hlen := decDigits_length u
    cases hd : decDigits u with
    | nil => exact absurd hd h3
    | cons c t =>
      rw [hd] at h1 h2 h4 h0 hlen
      have hc : c ≠ 45 := by
        rintro rfl
        rw [List.all_cons] at h1
        simp [isDg] at h1
      have hds : digitsOf (c :: t) = c :: t := by simp [digitsOf, hc]
      have hn : isNeg (c :: t) = false := by simp [isNeg, hc]
      refine ⟨?_, ?_, ?_⟩
      · unfold plainB; rw [hds, h1]
        by_cases hu : 0 < u
        · have := h4 hu; simp at this; simp [this]
        · have := h0 (by omega); simp [this]
      · unfold strV; rw [hds, hn, h2]; rfl
      · rw [hds, hlen]; simp
  · obtain ⟨u, rfl⟩ : ∃ u : Nat, z = -(u : Int) := ⟨(-z).toNat, by omega⟩
    have hu : 1 ≤ u := by omega
    obtain ⟨h1, h2, h3, h4⟩ := dec_says u
    rw [itoa_neg u hu]
    have hds : digitsOf (45 :: decDigits u) = decDigits u := by simp [digitsOf]
    have hn : isNeg (45 :: decDigits u) = true := by simp [isNeg]
    refine ⟨?_, ?_, ?_⟩
    · unfold plainB; rw [hds, h1]
      have := h4 (by omega)
      have h5 : (decDigits u).isEmpty = false := by cases hd : decDigits u with
        | nil => exact absurd hd h3
        | cons c t => rfl
      simp [h5, this]
    · unfold strV; rw [hds, hn, h2]; rfl
    · rw [hds, decDigits_length, Int.natAbs_neg, Int.natAbs_natCast]

end Go.Proofs.YtimcbmgmngkagaaDoor

namespace Go.Proofs.YtimcbmgmngkagaaDoor
open Go.RowKit

theorem long_itoa (z : Int) : longB z = decide (2000 < ((digitsOf (Lib.itoa z)).length)) := by
  rw [(itoa_says z).2.2]
  unfold longB nd0
  split
  · rename_i h; rw [h]; decide +kernel
  · rfl

/-- Lists of bytes. -/
def RdL (w : World) (a : Option Addr) (l : List (List UInt8)) : Prop := ∀ i s, l[i]? = some s → ∃ b off, a = some ⟨b, off, none⟩ ∧ b < w.heap.size ∧ w.cell? ⟨b, off + i, none⟩ = some (.string ⟨s.toArray⟩)
def allN (l : List (List UInt8)) : Bool := l.all numB

theorem RdL.below {w w' : World} {a : Option Addr} {l : List (List UInt8)} (h : RdL w a l) (hb : Below w.heap.size w w') : RdL w' a l := by
  intro i s hi
  obtain ⟨b, off, ha, hlt, hc⟩ := h i s hi
  exact ⟨b, off, ha, Nat.lt_of_lt_of_le hlt hb.size, (hb.cell (p := ⟨b, _, none⟩) hlt).trans hc⟩

end Go.Proofs.YtimcbmgmngkagaaDoor

namespace Go.Proofs.YtimcbmgmngkagaaDoor
open Go.RowKit

theorem RIs.set2 {w : World} {neg : Bool} {p : Option Addr} {n c : Nat} {xs : List Nat} {z : Int} (h : RIs w neg p n c xs z) {B : Nat} {a : Bool} {q : Option Addr} {k d : Nat} {t : TypeId} (hb : Boxed2 w B (.bool a) (.slice q k d) t) (a' : Bool) (v : Value) :
    RIs ((w.setCell ⟨B, 0, none⟩ (.bool a')).setCell ⟨B, 1, none⟩ v) neg p n c xs z :=
  { h with rd := (h.rd.boxI hb _).boxI (hb.set0 (.bool a')) _ }

end Go.Proofs.YtimcbmgmngkagaaDoor

namespace Go.Proofs.YtimcbmgmngkagaaDoor
open Go.RowKit

/-- i digits of x are done. -/
def RMulOut (xs ys zs : List Nat) (i : Nat) : Prop :=
  zs.length = xs.length + ys.length ∧ Dg BR zs ∧ dv BR zs = dv BR (xs.take i) * dv BR ys ∧ ∀ t, i + ys.length ≤ t → zs[t]?.getD 0 = 0

/-- Digit i of x, j places of y. -/
def RMulIn (xs ys z0 zs : List Nat) (i j c : Nat) : Prop :=
  zs.length = xs.length + ys.length ∧ Dg BR zs ∧ c < BR ∧ dv BR zs + BR ^ (i + j) * c = dv BR z0 + BR ^ i * (xs[i]?.getD 0 * dv BR (ys.take j)) ∧ (∀ t, i + 1 + ys.length ≤ t → zs[t]?.getD 0 = 0) ∧ (j ≤ ys.length → zs[i + ys.length]?.getD 0 = 0) ∧ (ys.length < j → c = 0)

theorem RMulIn.start {xs ys zs : List Nat} {i : Nat} (h : RMulOut xs ys zs i) : RMulIn xs ys zs zs i 0 0 :=
  ⟨h.1, h.2.1, by decide, by simp [dv], fun t ht => h.2.2.2 t (by omega), fun _ => h.2.2.2 _ (Nat.le_refl _), fun h => by omega⟩

theorem RMulIn.step {xs ys z0 zs : List Nat} {i j c s : Nat} (h : RMulIn xs ys z0 zs i j c) (hi : i < xs.length) (hj : j ≤ ys.length) (gx : Dg BR xs) (gy : Dg BR ys) (hs : c + zs[i + j]?.getD 0 + xs[i]?.getD 0 * ys[j]?.getD 0 = s) :
    RMulIn xs ys z0 (zs.set (i + j) (s % 10000)) i (j + 1) (s / 10000) := by
  obtain ⟨h1, h2, h3, h4, h5, h6, h7⟩ := h
  have hs' : c + (xs[i]?.getD 0 * ys[j]?.getD 0 + zs[i + j]?.getD 0) = s := by omega
  have hz := h6 hj
  refine ⟨by simp [h1], h2.set _ (Nat.mod_lt _ (by decide)), ?_, ?_, ?_, ?_, ?_⟩
  · rw [← hs']
    show _ / BR < BR
    rw [Nat.div_lt_iff_lt_mul (by decide)]
    exact mul_fits (by decide) h3 (gx.get (by decide) i) (gy.get (by decide) j) (h2.get (by decide) (i + j))
  · have g := mul_place (b := BR) (zs := zs) (at_ := i + j) (x := xs[i]?.getD 0) (w := ys[j]?.getD 0) (c := c) (by omega) rfl
    rw [hs'] at g
    have g' : dv BR (zs.set (i + j) (s % 10000)) + BR ^ (i + (j + 1)) * (s / 10000) = _ := g
    rw [g', h4, dv_take_succ, Nat.mul_add, Nat.mul_add, Nat.pow_add]
    grind
  · intro t ht
    rw [set_get_other _ _ _ _ (by omega)]; exact h5 t ht
  · intro hj'
    rw [set_get_other _ _ _ _ (by omega)]; exact hz
  · intro hj'
    have e : j = ys.length := by omega
    rw [e, hz, List.getElem?_eq_none (Nat.le_refl _)] at hs
    simp at hs
    have : BR = 10000 := rfl
    omega

theorem RMulIn.finish {xs ys z0 zs : List Nat} {i j : Nat} (h : RMulIn xs ys z0 zs i j 0) (h0 : RMulOut xs ys z0 i) (hj : ys.length ≤ j) : RMulOut xs ys zs (i + 1) := by
  obtain ⟨h1, h2, h3, h4, h5, h6, h7⟩ := h
  refine ⟨h1, h2, ?_, h5⟩
  rw [Nat.mul_zero, Nat.add_zero, List.take_of_length_le hj, h0.2.2.1] at h4
  rw [h4, dv_take_succ, Nat.add_mul, Nat.mul_assoc]

end Go.Proofs.YtimcbmgmngkagaaDoor

namespace Go.Proofs.YtimcbmgmngkagaaDoor
open Go.RowKit

theorem isL (l : List UInt8) (w : World) (hl : l.length ≤ 1000000000) : Calls Tryd.prog 14 #[.string ⟨l.toArray⟩] w fun e w' => e = .returned (.bool (numB l)) ∧ Below w.heap.size w w' := by
  have h := is_any ⟨l.toArray⟩ w (by show l.toArray.size ≤ maxLen; unfold maxLen; simp; omega)
  have e : (⟨l.toArray⟩ : ByteArray).data.toList = l := by show l.toArray.toList = l; simp
  rw [e] at h; exact h

theorem bytes_data (l : List UInt8) : (⟨l.toArray⟩ : ByteArray).data.toList = l := by show l.toArray.toList = l; simp
theorem bytes_small {l : List UInt8} (h : l.length ≤ 1000000000) : (⟨l.toArray⟩ : ByteArray).size ≤ maxLen := by show l.toArray.size ≤ maxLen; unfold maxLen; simp; omega

/-- What a call hands back: a written integer. -/
def OutIs (w : World) (z : Int) (e : Ending) (w' : World) : Prop := e = .returned (.tuple #[.string ⟨(outS z).toArray⟩, .int .i64 (outE z)]) ∧ Below w.heap.size w w'
/-- What a call hands back: no number was given. -/
def BadIs (w : World) (e : Ending) (w' : World) : Prop := e = .returned (.tuple #[.string ⟨#[]⟩, .int .i64 6]) ∧ Below w.heap.size w w'

theorem addL (a b : List UInt8) (w : World) (ha : a.length ≤ 1000000000) (hb : b.length ≤ 1000000000) (h1 : numB a = true) (h2 : numB b = true) (htab : Tab w) : Calls Tryd.prog 6 #[.string ⟨a.toArray⟩, .string ⟨b.toArray⟩] w (OutIs w (strV a + strV b)) := by
  have h := add_any ⟨a.toArray⟩ ⟨b.toArray⟩ w (bytes_small ha) (bytes_small hb) htab
  rw [bytes_data, bytes_data, h1, h2] at h
  exact h
theorem addL_bad (a b : List UInt8) (w : World) (ha : a.length ≤ 1000000000) (hb : b.length ≤ 1000000000) (h1 : (numB a && numB b) = false) (htab : Tab w) : Calls Tryd.prog 6 #[.string ⟨a.toArray⟩, .string ⟨b.toArray⟩] w (BadIs w) := by
  have h := add_any ⟨a.toArray⟩ ⟨b.toArray⟩ w (bytes_small ha) (bytes_small hb) htab
  rw [bytes_data, bytes_data, h1] at h
  exact h

theorem subL (a b : List UInt8) (w : World) (ha : a.length ≤ 1000000000) (hb : b.length ≤ 1000000000) (h1 : numB a = true) (h2 : numB b = true) (htab : Tab w) : Calls Tryd.prog 8 #[.string ⟨a.toArray⟩, .string ⟨b.toArray⟩] w (OutIs w (strV a - strV b)) := by
  have h := sub_any ⟨a.toArray⟩ ⟨b.toArray⟩ w (bytes_small ha) (bytes_small hb) htab
  rw [bytes_data, bytes_data, h1, h2] at h
  exact h
theorem mulL (a b : List UInt8) (w : World) (ha : a.length ≤ 1000000000) (hb : b.length ≤ 1000000000) (h1 : numB a = true) (h2 : numB b = true) (htab : Tab w) : Calls Tryd.prog 7 #[.string ⟨a.toArray⟩, .string ⟨b.toArray⟩] w (OutIs w (strV a * strV b)) := by
  have h := mul_any ⟨a.toArray⟩ ⟨b.toArray⟩ w (bytes_small ha) (bytes_small hb) htab
  rw [bytes_data, bytes_data, h1, h2] at h
  exact h
theorem strV_bound {l : List UInt8} {k : Nat} (h : numB l = true) (hl : l.length ≤ k) : (strV l).natAbs < 10 ^ k := by
  unfold numB plainB at h
  simp only [Bool.and_eq_true] at h
  have h1 := decV_lt _ h.1.1.2
  have h2 : (digitsOf l).length ≤ l.length := by
    cases l with
    | nil => exact Nat.le_refl _
    | cons c t => by_cases h : c = 45 <;> simp [digitsOf, h]
  have h3 : (10 : Nat) ^ (digitsOf l).length ≤ 10 ^ k := Nat.pow_le_pow_right (by decide) (by omega)
  have h4 : (strV l).natAbs = decV (digitsOf l) := by unfold strV; split <;> simp
  rw [h4]
  exact Nat.lt_of_lt_of_le h1 h3

end Go.Proofs.YtimcbmgmngkagaaDoor

namespace Go.Proofs.YtimcbmgmngkagaaDoor
open Go.RowKit Go.Maps

/-- Elements are read as they are. -/
def anyR (v : Value) : Option (DataW Value × List MemPlace) := some (.held v, [])

def ulit (k : Nat) : Lit := .int .u64 (k : Int)
theorem ulit_wf {k : Nat} (h : k < 18446744073709551616) : (ulit k).wf = true := by
  have h1 : IntKind.u64.min = 0 := rfl
  have h2 : IntKind.u64.max = 18446744073709551615 := rfl
  unfold ulit Lit.wf
  simp [h1, h2]; omega
theorem ulit_key {k : Nat} (h : k < 18446744073709551616) : keyOf Tryd.prog 24 (.int .u64 (k : Int)) = some (ulit k) := keyOf_int_mk Tryd.underlying24 (ulit_wf h)
theorem ulit_isKey (k : Nat) : WideAt.IsKeyLit (ulit k) := trivial
theorem ulit_ne {j k : Nat} (h : j ≠ k) : ulit j ≠ ulit k := by
  intro e; unfold ulit at e; simp at e; omega

/-- Block b holds the map g, of at most n entries. -/
def MapIs (w : World) (b n : Nat) (g : Nat → Option Value) : Prop :=
  ∃ D : DataW Value, w.ownsMap Tryd.prog 24 anyR b n D ∧ IsMap D ∧ ∀ k, Maps.has D (ulit k) = (g k).isSome ∧ (∀ v, g k = some v → ∀ z, D.atKey (ulit k) z = .held v) ∧ (g k = none → ∀ z, D.atKey (ulit k) z = z)

theorem MapIs.made (w : World) : MapIs (w.alloc (.map #[] 0)) w.heap.size 0 (fun _ => none) :=
  ⟨.map [], World.ownsMap_made w _ _ _, (World.ownsMap_made w Tryd.prog 24 anyR).isMap, fun k => ⟨rfl, fun v h => (by simp at h), fun _ z => rfl⟩⟩

theorem MapIs.kept {w w' : World} {b n : Nat} {g : Nat → Option Value} {row : Option Nat} (h : MapIs w b n g) (hg : w.grownBy w' row) (hne : some b ≠ row) : MapIs w' b n g := by
  obtain ⟨D, h1, h2⟩ := h
  exact ⟨D, h1.kept hg hne, h2⟩

def putG (g : Nat → Option Value) (k : Nat) (v : Value) : Nat → Option Value := fun j => if j = k then some v else g j

def zeroNum : Value := .agg #[.bool false, .slice none 0 0]

theorem zero79 (w : World) : (zeroValue 47).run Tryd.prog w = .ok zeroNum w := by
  obtain ⟨i, hi, hz, _, _⟩ := info_parts Tryd.info79
  unfold zeroValue
  rw [Sem.run_bind, run_typeInfo w hi]
  simp only [Result.andThen, hz]
  rfl

theorem MapIs.look {w : World} {b n : Nat} {g : Nat → Option Value} (h : MapIs w b n g) {k : Nat} (hk : k < 18446744073709551616) :
    (Instr.lookup 98 (.map (some b)) (.int .u64 (k : Int)) true).run Tryd.prog w = .ok (.tuple #[(g k).getD zeroNum, .bool (g k).isSome]) w := by
  obtain ⟨D, h1, _, h2⟩ := h
  obtain ⟨a1, a2, a3⟩ := h2 k
  obtain ⟨v, ps, e1, e2⟩ := h1.look_ok (int_keyed Tryd.underlying24) Tryd.underlying98 (zero79 w) (zd := .held zeroNum) (zp := []) rfl (ulit_key hk)
  rw [a1] at e1
  rw [e1]
  simp only [anyR, Option.some.injEq, Prod.mk.injEq] at e2
  cases hg : g k with
  | none =>
    rw [a3 hg] at e2
    have := e2.1
    simp at this
    rw [this]; rfl
  | some u =>
    rw [a2 u hg] at e2
    have := e2.1
    simp at this
    rw [this]; rfl

theorem MapIs.store {w : World} {b n : Nat} {g : Nat → Option Value} (h : MapIs w b n g) {k : Nat} (hk : k < 18446744073709551616) (hn : n < 1000000) (v : Value) :
    ∃ w', (Instr.mapUpdate 98 (.map (some b)) (.int .u64 (k : Int)) v).run Tryd.prog w = .ok () w' ∧ MapIs w' b (n + 1) (putG g k v) ∧ w.grownBy w' (some b) := by
  obtain ⟨D, h1, hM, h2⟩ := h
  obtain ⟨w', e1, e2, e3⟩ := h1.update (int_keyed Tryd.underlying24) Tryd.underlying98 (by unfold maxLen; omega) (val := v) (d := .held v) (ps := []) (ulit_key hk) rfl
  refine ⟨w', e1, ⟨_, e2, e2.isMap, fun j => ?_⟩, e3⟩
  unfold putG
  by_cases hj : j = k
  · subst hj
    rw [if_pos rfl]
    refine ⟨has_put_same hM (ulit_isKey _) _, fun u hu z => ?_, fun h => by cases h⟩
    cases hu
    exact atKey_put_same hM (ulit_isKey _) _ _
  · rw [if_neg hj]
    obtain ⟨a1, a2, a3⟩ := h2 j
    exact ⟨by rw [has_put_other (ulit_ne hj)]; exact a1, fun u hu z => by rw [atKey_put_other (ulit_ne hj)]; exact a2 u hu z, fun hu z => by rw [atKey_put_other (ulit_ne hj)]; exact a3 hu z⟩

end Go.Proofs.YtimcbmgmngkagaaDoor

namespace Go.Proofs.YtimcbmgmngkagaaDoor

/-- An element of a row. -/
def ent (xs : List Int) (c : Nat) : Int := xs[c]?.getD 0

theorem ent_at {xs : List Int} {j : Nat} (h : j < xs.length) : ent xs j = xs[j] := by unfold ent; rw [List.getElem?_eq_getElem h]; rfl

/-- Along a row, the first j columns: the total, and whether the next term is turned. -/
def colS (xs : List Int) (f : Nat → Int) (u : Nat) : Nat → Int × Bool
  | 0 => (0, false)
  | j + 1 => if u.testBit j then colS xs f u j else ((colS xs f u j).1 + (if (colS xs f u j).2 then -(ent xs j * f j) else ent xs j * f j), !(colS xs f u j).2)

/-- The minor of the last k of n rows, without the columns of u. -/
def minorZ (M : List (List Int)) (n : Nat) : Nat → Nat → Int
  | 0, _ => 1
  | k + 1, u => (colS ((M[n - (k + 1)]?).getD []) (fun c => minorZ M n k (u ||| 2 ^ c)) u n).1

/-- How many of the first n columns are used. -/
def pop : Nat → Nat → Nat
  | 0, _ => 0
  | n + 1, u => pop n u + (if u.testBit n then 1 else 0)

theorem or_bit (u c i : Nat) : (u ||| 2 ^ c).testBit i = (u.testBit i || decide (c = i)) := by
  rw [Nat.testBit_or, Nat.testBit_two_pow]

theorem pop_or_ge : ∀ (n u c : Nat), n ≤ c → pop n (u ||| 2 ^ c) = pop n u
  | 0, _, _, _ => rfl
  | n + 1, u, c, h => by
    unfold pop
    rw [pop_or_ge n u c (by omega), or_bit]
    have : decide (c = n) = false := by simp; omega
    rw [this, Bool.or_false]

theorem pop_or : ∀ (n u c : Nat), c < n → u.testBit c = false → pop n (u ||| 2 ^ c) = pop n u + 1
  | n + 1, u, c, h, hu => by
    unfold pop
    rw [or_bit]
    by_cases e : c = n
    · subst e
      rw [pop_or_ge c u c (Nat.le_refl _), hu]; simp
    · have : decide (c = n) = false := by simp; exact e
      rw [pop_or n u c (by omega) hu, this, Bool.or_false]; omega

theorem or_lt {n u c : Nat} (hu : u < 2 ^ n) (hc : c < n) : u ||| 2 ^ c < 2 ^ n :=
  Nat.or_lt_two_pow hu (Nat.pow_lt_pow_right (by decide) hc)

theorem colS_used {xs : List Int} {f : Nat → Int} {u j : Nat} (h : u.testBit j = true) : colS xs f u (j + 1) = colS xs f u j := by
  conv => lhs; unfold colS
  rw [if_pos h]
theorem colS_free {xs : List Int} {f : Nat → Int} {u j : Nat} (h : u.testBit j = false) : colS xs f u (j + 1) = ((colS xs f u j).1 + (if (colS xs f u j).2 then -(ent xs j * f j) else ent xs j * f j), !(colS xs f u j).2) := by
  conv => lhs; unfold colS
  rw [if_neg (by rw [h]; decide)]

/-- A determinant. -/
def detZ (M : List (List Int)) : Int := minorZ M M.length M.length 0

/-- How long minors get, and how many are kept. -/
def detL (k : Nat) : Nat := 1 + k * 240
def detS : Nat → Nat
  | 0 => 0
  | k + 1 => 6 * detS k + 1
theorem detS_mono : ∀ {k m : Nat}, k ≤ m → detS k ≤ detS m
  | k, m, h => by
    induction m with
    | zero => rw [Nat.le_zero.1 h]; exact Nat.le_refl _
    | succ m ih =>
      rcases Nat.lt_or_ge m k with h' | h'
      · rw [show k = m + 1 by omega]; exact Nat.le_refl _
      · have := ih h'; show detS k ≤ 6 * detS m + 1; omega

theorem pop_zero : ∀ n, pop n 0 = 0
  | 0 => rfl
  | n + 1 => by unfold pop; rw [pop_zero n]; simp

end Go.Proofs.YtimcbmgmngkagaaDoor

namespace Go.Proofs.YtimcbmgmngkagaaDoor
open Go.RowKit Go.Maps

/-- Block b holds a map. -/
def MapAt (w : World) (b : Nat) : Prop := ∃ es clock, w.heap[b]? = some (.map es clock)

theorem MapIs.at {w : World} {b n : Nat} {g : Nat → Option Value} (h : MapIs w b n g) : MapAt w b := by
  obtain ⟨D, ⟨es, clock, h1, _⟩, _⟩ := h
  exact ⟨es, clock, h1⟩

theorem MapAt.ne {w : World} {b : Nat} (h : MapAt w b) {a : Addr} {v : Value} (hc : w.cell? a = some v) : a.block ≠ b := by
  obtain ⟨es, clock, h1⟩ := h
  intro e
  rw [← e] at h1
  simp [World.cell?, h1] at hc

theorem cell_grown {w w' : World} {b : Nat} (hm : MapAt w b) (hg : w.grownBy w' (some b)) {a : Addr} {v : Value} (hc : w.cell? a = some v) : w'.cell? a = some v :=
  hg.cell hc (fun e => hm.ne hc (Option.some.inj e))

theorem Rd.grown {k : IntKind} {w w' : World} {b : Nat} (hm : MapAt w b) (hg : w.grownBy w' (some b)) {p : Option Addr} {n : Nat} {xs : List Nat} (h : Rd k w p n xs) : Rd k w' p n xs := by
  refine ⟨h.1, fun i hi => ?_⟩
  obtain ⟨b', off, hp, hlt, hc⟩ := h.2 i hi
  exact ⟨b', off, hp, Nat.lt_of_lt_of_le hlt hg.size, cell_grown hm hg hc⟩

theorem NumIs.grown {w w' : World} {b : Nat} (hm : MapAt w b) (hg : w.grownBy w' (some b)) {neg : Bool} {p : Option Addr} {n c : Nat} {xs : List Nat} {z : Int} {L : Nat} (h : NumIs w neg p n c xs z L) : NumIs w' neg p n c xs z L :=
  { h with rd := h.rd.grown hm hg }

theorem Nums.grown {w w' : World} {b : Nat} (hm : MapAt w b) (hg : w.grownBy w' (some b)) {a : Option Addr} {zs : List Int} {L : Nat} (h : Nums w a zs L) : Nums w' a zs L := by
  intro i z hz
  obtain ⟨b', off, neg, p, n, c, xs, ha, hlt, h0, h1, hn⟩ := h i z hz
  exact ⟨b', off, neg, p, n, c, xs, ha, Nat.lt_of_lt_of_le hlt hg.size, cell_grown hm hg h0, cell_grown hm hg h1, hn.grown hm hg⟩

theorem grown_trans {a b c : World} {r : Option Nat} (h : a.grownBy b r) (k : b.grownBy c r) : a.grownBy c r :=
  ⟨k.os.trans h.os, k.tape.trans h.tape, k.output.trans h.output, Nat.le_trans h.size k.size, fun i hi hr => (k.block i (Nat.lt_of_lt_of_le hi h.size) hr).trans (h.block i hi hr)⟩
theorem grown_refl (a : World) (r : Option Nat) : a.grownBy a r := ⟨rfl, rfl, rfl, Nat.le_refl _, fun _ _ _ => rfl⟩
theorem grown_below {w w' : World} (h : Below w.heap.size w w') (r : Option Nat) : w.grownBy w' r := ⟨h.os, h.tape, h.output, h.size, fun k hk _ => h.block k hk⟩
theorem grown_drew {a b : World} {r : Option Nat} (h : a.grownBy b r) : a.grownBy b.drew r := ⟨h.os, h.tape, h.output, h.size, h.block⟩
theorem grown_set {a b : World} {r : Option Nat} (h : a.grownBy b r) {C i : Nat} (hC : a.heap.size ≤ C) (v : Value) : a.grownBy (b.setCell ⟨C, i, none⟩ v) r := by
  refine ⟨h.os, h.tape, h.output, by simpa using h.size, fun k hk hr => ?_⟩
  rw [Below.heap_setCell _ _ _ _ (by show k ≠ C; omega)]
  exact h.block k hk hr

theorem MapIs.setOther {w : World} {b n : Nat} {g : Nat → Option Value} (h : MapIs w b n g) {C i : Nat} (hne : b ≠ C) (v : Value) : MapIs (w.setCell ⟨C, i, none⟩ v) b n g := by
  obtain ⟨D, h1, h2⟩ := h
  exact ⟨D, h1.setCell (a := ⟨C, i, none⟩) hne v, h2⟩
theorem MapIs.drew {w : World} {b n : Nat} {g : Nat → Option Value} (h : MapIs w b n g) : MapIs w.drew b n g := h
theorem MapIs.mono {w : World} {b n m : Nat} {g : Nat → Option Value} (h : MapIs w b n g) (hm : n ≤ m) : MapIs w b m g := by
  obtain ⟨D, h1, h2⟩ := h
  exact ⟨D, h1.mono hm, h2⟩

/-- Rows of numbers. -/
def RowsIs (w : World) (ra : Option Addr) (M : List (List Int)) (L : Nat) : Prop :=
  ∀ i row, M[i]? = some row → ∃ b off p c, ra = some ⟨b, off, none⟩ ∧ b < w.heap.size ∧ w.cell? ⟨b, off + i, none⟩ = some (.slice p row.length c) ∧ Nums w p row L

theorem RowsIs.grown {w w' : World} {b : Nat} (hm : MapAt w b) (hg : w.grownBy w' (some b)) {ra : Option Addr} {M : List (List Int)} {L : Nat} (h : RowsIs w ra M L) : RowsIs w' ra M L := by
  intro i row hi
  obtain ⟨b', off, p, c, ha, hlt, hc, hn⟩ := h i row hi
  exact ⟨b', off, p, c, ha, Nat.lt_of_lt_of_le hlt hg.size, cell_grown hm hg hc, hn.grown hm hg⟩

theorem RowsIs.below {w w' : World} (hb : Below w.heap.size w w') {ra : Option Addr} {M : List (List Int)} {L : Nat} (h : RowsIs w ra M L) : RowsIs w' ra M L := by
  intro i row hi
  obtain ⟨b', off, p, c, ha, hlt, hc, hn⟩ := h i row hi
  exact ⟨b', off, p, c, ha, Nat.lt_of_lt_of_le hlt hb.size, (hb.cell (p := ⟨b', _, none⟩) hlt).trans hc, hn.below hb⟩

/-- A minor that is kept. -/
def KeptIs (w : World) (M : List (List Int)) (n : Nat) (g : Nat → Option Value) : Prop :=
  ∀ u v, g u = some v → ∃ neg p m c xs, v = .agg #[.bool neg, .slice p m c] ∧ NumIs w neg p m c xs (minorZ M n (n - pop n u) u) (detL (n - pop n u))

/-- The captured variables, and the map. -/
structure DetIs (w : World) (br bk bf bm : Nat) (ra : Option Addr) (n c cnt : Nat) (M : List (List Int)) (g : Nat → Option Value) : Prop where
  r : w.heap[br]? = some (.cells #[.slice ra n c] 78 (0, 0))
  k : w.heap[bk]? = some (.cells #[.map (some bm)] 98 (0, 0))
  f : w.heap[bf]? = some (.cells #[.func (.func 59) #[] #[.pointer (some ⟨br, 0, none⟩), .pointer (some ⟨bk, 0, none⟩), .pointer (some ⟨bf, 0, none⟩)]] 99 (0, 0))
  m : MapIs w bm cnt g
  rows : RowsIs w ra M 223
  kept : KeptIs w M n g

theorem one_at {w : World} {b : Nat} {v : Value} {t : TypeId} (h : w.heap[b]? = some (.cells #[v] t (0, 0))) : w.cell? ⟨b, 0, none⟩ = some v := by simp [World.cell?, h]

theorem KeptIs.grown {w w' : World} {b : Nat} (hm : MapAt w b) (hg : w.grownBy w' (some b)) {M : List (List Int)} {n : Nat} {g : Nat → Option Value} (h : KeptIs w M n g) : KeptIs w' M n g := by
  intro u v hu
  obtain ⟨neg, p, m, c, xs, e, hx⟩ := h u v hu
  exact ⟨neg, p, m, c, xs, e, hx.grown hm hg⟩

theorem MapAt.ne_cells {w : World} {b b' : Nat} (h : MapAt w b) {cs : Array Value} {t : TypeId} {f : Nat × Nat} (h' : w.heap[b']? = some (.cells cs t f)) : b' ≠ b := by
  obtain ⟨es, clock, h1⟩ := h
  rintro rfl
  rw [h'] at h1; cases h1

/-- Nothing but new blocks. -/
theorem DetIs.below {w w' : World} {br bk bf bm : Nat} {ra : Option Addr} {n c cnt : Nat} {M : List (List Int)} {g : Nat → Option Value} (h : DetIs w br bk bf bm ra n c cnt M g) (hb : Below w.heap.size w w') : DetIs w' br bk bf bm ra n c cnt M g := by
  have lt : ∀ {b : Nat} {o : Obj}, w.heap[b]? = some o → b < w.heap.size := fun h => (Array.getElem?_eq_some_iff.1 h).1
  have hm := h.m.at
  have hg := grown_below hb (some bm)
  obtain ⟨es, clock, h1⟩ := hm
  exact { r := (hb.block br (lt h.r)).trans h.r, k := (hb.block bk (lt h.k)).trans h.k, f := (hb.block bf (lt h.f)).trans h.f
          m := h.m.kept (grown_below hb none) (by simp)
          rows := h.rows.below hb, kept := h.kept.grown ⟨es, clock, h1⟩ hg }

theorem NumIs.setNum {w : World} {neg : Bool} {p : Option Addr} {n c : Nat} {xs : List Nat} {z : Int} {L : Nat} (h : NumIs w neg p n c xs z L) {B : Nat} {a : Bool} {q : Option Addr} {k d : Nat} {t : TypeId} (hb : Boxed2 w B (.bool a) (.slice q k d) t) (i : Nat) (v : Value) : NumIs (w.setCell ⟨B, i, none⟩ v) neg p n c xs z L :=
  { h with rd := h.rd.box hb v }

/-- A store into a number's variable of the call's own. -/
theorem DetIs.set {w0 w : World} {br bk bf bm : Nat} {ra : Option Addr} {n c cnt0 cnt : Nat} {M : List (List Int)} {g0 g : Nat → Option Value} (h0 : DetIs w0 br bk bf bm ra n c cnt0 M g0) (h : DetIs w br bk bf bm ra n c cnt M g) (hg : w0.grownBy w (some bm))
    {B : Nat} (hB : w0.heap.size ≤ B) {a : Bool} {q : Option Addr} {k d : Nat} {t : TypeId} (hb : Boxed2 w B (.bool a) (.slice q k d) t) (i : Nat) (v : Value) : DetIs (w.setCell ⟨B, i, none⟩ v) br bk bf bm ra n c cnt M g := by
  have hg' := grown_set (i := i) hg hB v
  have hm := h0.m.at
  have lt : ∀ {b : Nat} {o : Obj}, w0.heap[b]? = some o → b < w0.heap.size := fun h => (Array.getElem?_eq_some_iff.1 h).1
  have ne : ∀ {b : Nat} {cs : Array Value} {t : TypeId} {f : Nat × Nat}, w0.heap[b]? = some (.cells cs t f) → some b ≠ some bm := fun h e => hm.ne_cells h (Option.some.inj e)
  exact { r := (hg'.block br (lt h0.r) (ne h0.r)).trans h0.r, k := (hg'.block bk (lt h0.k) (ne h0.k)).trans h0.k, f := (hg'.block bf (lt h0.f) (ne h0.f)).trans h0.f
          m := h.m.setOther (fun e => h.m.at.ne_cells hb e.symm) v
          rows := h0.rows.grown hm hg'
          kept := fun u v' hu => by
            obtain ⟨neg, p, m, c, xs, e, hx⟩ := h.kept u v' hu
            exact ⟨neg, p, m, c, xs, e, hx.setNum hb i v⟩ }

theorem DetIs.set2 {w0 w : World} {br bk bf bm : Nat} {ra : Option Addr} {n c cnt0 cnt : Nat} {M : List (List Int)} {g0 g : Nat → Option Value} (h0 : DetIs w0 br bk bf bm ra n c cnt0 M g0) (h : DetIs w br bk bf bm ra n c cnt M g) (hg : w0.grownBy w (some bm))
    {B : Nat} (hB : w0.heap.size ≤ B) {a : Bool} {q : Option Addr} {k d : Nat} {t : TypeId} (hb : Boxed2 w B (.bool a) (.slice q k d) t) (a' : Bool) (q' : Option Addr) (k' d' : Nat) :
    DetIs ((w.setCell ⟨B, 0, none⟩ (.bool a')).setCell ⟨B, 1, none⟩ (.slice q' k' d')) br bk bf bm ra n c cnt M g ∧ w0.grownBy ((w.setCell ⟨B, 0, none⟩ (.bool a')).setCell ⟨B, 1, none⟩ (.slice q' k' d')) (some bm) :=
  ⟨DetIs.set h0 (DetIs.set h0 h hg hB hb 0 (.bool a')) (grown_set hg hB _) hB (hb.set0 (.bool a')) 1 _, grown_set (grown_set hg hB _) hB _⟩

theorem NumIs.set2 {w : World} {neg : Bool} {p : Option Addr} {n c : Nat} {xs : List Nat} {z : Int} {L : Nat} (h : NumIs w neg p n c xs z L) {B : Nat} {a : Bool} {q : Option Addr} {k d : Nat} {t : TypeId} (hb : Boxed2 w B (.bool a) (.slice q k d) t) (a' : Bool) (v : Value) :
    NumIs ((w.setCell ⟨B, 0, none⟩ (.bool a')).setCell ⟨B, 1, none⟩ v) neg p n c xs z L := (h.setNum hb 0 _).setNum (hb.set0 (.bool a')) 1 _

theorem Boxed2.grown {w w' : World} {b : Nat} (hm : MapAt w b) (hg : w.grownBy w' (some b)) {B : Nat} {x y : Value} {t : TypeId} (h : Boxed2 w B x y t) : Boxed2 w' B x y t := by
  unfold Boxed2 at *
  exact (hg.block B (Array.getElem?_eq_some_iff.1 h).1 (fun e => hm.ne_cells h (Option.some.inj e))).trans h

/-- What was done before, of what was there before the call. -/
theorem DetIs.grownFix {w0 w : World} {br bk bf bm : Nat} {ra : Option Addr} {n c cnt0 cnt : Nat} {M : List (List Int)} {g0 g : Nat → Option Value} (h0 : DetIs w0 br bk bf bm ra n c cnt0 M g0) (hg : w0.grownBy w (some bm)) (hm : MapIs w bm cnt g) (hk : KeptIs w M n g) : DetIs w br bk bf bm ra n c cnt M g := by
  have hmm := h0.m.at
  have lt : ∀ {b : Nat} {o : Obj}, w0.heap[b]? = some o → b < w0.heap.size := fun h => (Array.getElem?_eq_some_iff.1 h).1
  have ne : ∀ {b : Nat} {cs : Array Value} {t : TypeId} {f : Nat × Nat}, w0.heap[b]? = some (.cells cs t f) → some b ≠ some bm := fun h e => hmm.ne_cells h (Option.some.inj e)
  exact { r := (hg.block br (lt h0.r) (ne h0.r)).trans h0.r, k := (hg.block bk (lt h0.k) (ne h0.k)).trans h0.k, f := (hg.block bf (lt h0.f) (ne h0.f)).trans h0.f, m := hm, rows := h0.rows.grown hmm hg, kept := hk }

end Go.Proofs.YtimcbmgmngkagaaDoor

namespace Go.Proofs.YtimcbmgmngkagaaDoor

section
open Go.Lib

theorem nd0_le {u k : Nat} : nd0 u ≤ k ↔ u < 10 ^ k := by
  by_cases h : u = 0
  · subst h
    constructor
    · intro _; exact Nat.pow_pos (by decide)
    · intro _; exact Nat.zero_le _
  · have e : nd0 u = nDigits u := by unfold nd0; rw [if_neg h]
    rw [e]
    constructor
    · intro hk; exact Nat.lt_of_lt_of_le (lt_pow_nDigits u) (Nat.pow_le_pow_right (by decide) hk)
    · intro hk
      by_cases h0 : k = 0
      · subst h0; rw [Nat.pow_zero] at hk; omega
      · exact nDigits_le (by omega) hk

theorem nd0_mono {a b : Nat} (h : a ≤ b) : nd0 a ≤ nd0 b := nd0_le.2 (Nat.lt_of_le_of_lt h (nd0_le.1 (Nat.le_refl _)))

/-- What 'power' hands back for x to the power of k: that, or another one that is too long as well. -/
def PowIs (x : Int) (k : Nat) (z : Int) : Prop := z = x ^ k ∨ (longB z = true ∧ longB (x ^ k) = true)

theorem PowIs.out {x z : Int} {k : Nat} (h : PowIs x k z) : outS z = outS (x ^ k) ∧ outE z = outE (x ^ k) := by
  rcases h with rfl | ⟨h1, h2⟩
  · exact ⟨rfl, rfl⟩
  · unfold outS outE; rw [h1, h2]; exact ⟨rfl, rfl⟩

theorem long_nd {z : Int} : longB z = true ↔ 2000 < nd0 z.natAbs := by unfold longB; exact decide_eq_true_iff

theorem long_pow {x : Int} {a b : Nat} (h : a ≤ b) (hl : longB (x ^ a) = true) : longB (x ^ b) = true := by
  rw [long_nd] at *
  have e : ∀ k, (x ^ k).natAbs = x.natAbs ^ k := fun k => Int.natAbs_pow x k
  rw [e] at *
  by_cases h0 : x.natAbs = 0
  · have h1 : nd0 (x.natAbs ^ a) ≤ 1 := by
      rw [nd0_le, h0]
      cases a with
      | zero => decide
      | succ a => rw [Nat.pow_succ]; simp
    omega
  · exact Nat.lt_of_lt_of_le hl (nd0_mono (Nat.pow_le_pow_right (by omega) h))

theorem PowIs.stop {x r : Int} {k : Nat} (h : PowIs x (k / 2) r) (hl : longB r = true) : PowIs x k r := by
  right
  refine ⟨hl, ?_⟩
  rcases h with rfl | ⟨_, h2⟩
  · exact long_pow (Nat.div_le_self k 2) hl
  · exact long_pow (Nat.div_le_self k 2) h2

theorem PowIs.exact {x r : Int} {k : Nat} (h : PowIs x k r) (hl : longB r = false) : r = x ^ k := by
  rcases h with h | ⟨h1, _⟩
  · exact h
  · rw [hl] at h1; cases h1

theorem few_words {u k m : Nat} (h : nd0 u ≤ k) (hk : k ≤ 9 * m) : u < BW ^ m := by
  rw [nd0_le] at h
  rw [pow_words]
  exact Nat.lt_of_lt_of_le h (Nat.pow_le_pow_right (by decide) hk)
/-- A number that is not too long has at most 223 words. -/
theorem short_words {z : Int} (h : longB z = false) : z.natAbs < BW ^ 223 := by
  have h1 : nd0 z.natAbs ≤ 2000 := by
    rcases Nat.lt_or_ge 2000 (nd0 z.natAbs) with h2 | h2
    · rw [long_nd.2 h2] at h; cases h
    · exact h2
  exact few_words h1 (by decide)

end

section
open Go.RowKit

/-- A number that is not too long, in few words. -/
theorem NumIs.short {w : World} {neg : Bool} {p : Option Addr} {n c : Nat} {xs : List Nat} {z : Int} {L : Nat} (h : NumIs w neg p n c xs z L) (hz : longB z = false) : NumIs w neg p n c xs z 223 :=
  NumIs.mk' h.rd h.cap h.cn (fun hn => by rw [h.rd.1]; exact h.pos hn) h.val.symm (short_words hz)

end

section
open Go.RowKit

end

end Go.Proofs.YtimcbmgmngkagaaDoor

namespace Go.Proofs.YtimcbmgmngkagaaDoor
open Go.Lib

theorem dec_inj_len : ∀ (k : Nat) (a b : List UInt8), a.length = k → b.length = k → a.all isDg = true → b.all isDg = true → decV a = decV b → a = b := by
  intro k
  induction k with
  | zero =>
    intro a b ha hb _ _ _
    rw [List.length_eq_zero_iff.1 ha, List.length_eq_zero_iff.1 hb]
  | succ k ih =>
    intro a b ha hb da db h
    rcases List.eq_nil_or_concat a with e | ⟨a', c, rfl⟩
    · rw [e] at ha; simp at ha
    rcases List.eq_nil_or_concat b with e | ⟨b', d, rfl⟩
    · rw [e] at hb; simp at hb
    simp only [List.concat_eq_append] at ha da h hb db ⊢
    rw [List.all_append, Bool.and_eq_true] at da db
    have hc : isDg c = true := by simpa using da.2
    have hd : isDg d = true := by simpa using db.2
    rw [decV_snoc, decV_snoc] at h
    have hc' : 48 ≤ c.toNat ∧ c.toNat ≤ 57 := of_decide_eq_true hc
    have hd' : 48 ≤ d.toNat ∧ d.toNat ≤ 57 := of_decide_eq_true hd
    have e1 : c = d := UInt8.toNat_inj.1 (by omega)
    have e2 : a' = b' := ih a' b' (by simpa using ha) (by simpa using hb) da.1 db.1 (by omega)
    rw [e1, e2]

/-- Digits without a needless 0 ahead. -/
def TidyD (l : List UInt8) : Prop := l ≠ [] ∧ l.all isDg = true ∧ (l.head? ≠ some 48 ∨ l = [48])

theorem tidy_low {l : List UInt8} (h : TidyD l) (h48 : l ≠ [48]) : 10 ^ (l.length - 1) ≤ decV l := by
  obtain ⟨h1, h2, h3⟩ := h
  cases l with
  | nil => exact absurd rfl h1
  | cons c l =>
    have hc : isDg c = true := by rw [List.all_cons, Bool.and_eq_true] at h2; exact h2.1
    have hc' : 48 ≤ c.toNat ∧ c.toNat ≤ 57 := of_decide_eq_true hc
    have hne : c ≠ 48 := by
      rcases h3 with h3 | h3
      · intro e; exact h3 (by rw [e]; rfl)
      · exact absurd h3 h48
    have hc48 : c.toNat ≠ 48 := fun e => hne (UInt8.toNat_inj.1 (by rw [e]; rfl))
    have e := decV_append [c] l
    rw [List.singleton_append] at e
    rw [e, List.length_cons, Nat.add_sub_cancel]
    have : decV [c] = c.toNat - 48 := by simp [decV]
    rw [this]
    have : 1 * 10 ^ l.length ≤ (c.toNat - 48) * 10 ^ l.length := Nat.mul_le_mul_right _ (by omega)
    omega

theorem tidy_inj {a b : List UInt8} (ha : TidyD a) (hb : TidyD b) (h : decV a = decV b) : a = b := by
  have z48 : decV [48] = 0 := by decide
  have pos : ∀ {l : List UInt8}, TidyD l → l ≠ [48] → 0 < decV l := fun hl hn => Nat.lt_of_lt_of_le (Nat.pow_pos (by decide)) (tidy_low hl hn)
  by_cases h1 : a = [48]
  · by_cases h2 : b = [48]
    · rw [h1, h2]
    · have := pos hb h2
      rw [← h, h1, z48] at this
      omega
  · by_cases h2 : b = [48]
    · have := pos ha h1
      rw [h, h2, z48] at this
      omega
    · have l1 := tidy_low ha h1
      have l2 := tidy_low hb h2
      have u1 := decV_bnd ha.2.1
      have u2 := decV_bnd hb.2.1
      have n1 : 1 ≤ a.length := List.length_pos_iff.2 ha.1
      have n2 : 1 ≤ b.length := List.length_pos_iff.2 hb.1
      have key : a.length = b.length := by
        rcases Nat.lt_trichotomy a.length b.length with hl | hl | hl
        · have : 10 ^ a.length ≤ 10 ^ (b.length - 1) := Nat.pow_le_pow_right (by decide) (by omega)
          omega
        · exact hl
        · have : 10 ^ b.length ≤ 10 ^ (a.length - 1) := Nat.pow_le_pow_right (by decide) (by omega)
          omega
      exact dec_inj_len _ a b key rfl ha.2.1 hb.2.1 h

theorem plain_tidy {l : List UInt8} (h : plainB l = true) : TidyD (digitsOf l) ∧ (isNeg l = true → 0 < decV (digitsOf l)) := by
  unfold plainB at h
  simp only [Bool.and_eq_true, Bool.or_eq_true, bne_iff_ne, ne_eq, beq_iff_eq, Bool.not_eq_true', List.isEmpty_eq_false_iff] at h
  obtain ⟨⟨h1, h2⟩, h3⟩ := h
  have ht : TidyD (digitsOf l) := ⟨h1, h2, by
    rcases h3 with h3 | h3
    · exact .inl h3
    · right; rw [h3]; rfl⟩
  refine ⟨ht, fun hn => ?_⟩
  refine Nat.lt_of_lt_of_le (Nat.pow_pos (by decide)) (tidy_low ht ?_)
  intro e
  rcases h3 with h3 | h3
  · rw [e] at h3; exact h3 rfl
  · rw [h3] at hn; exact absurd hn (by decide)

theorem text_of {l : List UInt8} : l = (if isNeg l then 45 :: digitsOf l else digitsOf l) := by
  cases l with
  | nil => rfl
  | cons c t =>
    by_cases hc : c = 45
    · subst hc; simp [isNeg, digitsOf]
    · simp [isNeg, digitsOf, hc]

theorem plain_inj {a b : List UInt8} (ha : plainB a = true) (hb : plainB b = true) (h : strV a = strV b) : a = b := by
  obtain ⟨ta, pa⟩ := plain_tidy ha
  obtain ⟨tb, pb⟩ := plain_tidy hb
  unfold strV at h
  have ea := text_of (l := a)
  have eb := text_of (l := b)
  cases na : isNeg a <;> cases nb : isNeg b <;> rw [na] at h ea <;> rw [nb] at h eb <;> simp only [if_true, if_false, Bool.false_eq_true] at h ea eb
  · rw [ea, eb]; exact tidy_inj ta tb (by omega)
  · have := pb nb; omega
  · have := pa na; omega
  · rw [ea, eb]; rw [tidy_inj ta tb (by omega)]

theorem num_plain {l : List UInt8} (h : numB l = true) : plainB l = true := by
  unfold numB at h
  rw [Bool.and_eq_true] at h
  exact h.1

/-- What is read and written again is the same text. -/
theorem itoa_strV {l : List UInt8} (h : numB l = true) : itoa (strV l) = l := plain_inj (itoa_says _).1 (num_plain h) (itoa_says _).2.1

end Go.Proofs.YtimcbmgmngkagaaDoor
