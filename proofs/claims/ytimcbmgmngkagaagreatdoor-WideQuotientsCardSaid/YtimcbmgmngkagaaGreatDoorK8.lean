/-
  The reference: the integer of a string; A number out of any text; What is written is read. Plain; The reference's Long; the laws' 'form'; The reference: products; Sums, differences and products of two strings.
-/
import Derived.Lib.ItoaLen
import Derived.Deep.RegionHeld3
import Derived.Test.YtimcbmgmngkagaaGreatDoorK1
import Derived.Test.YtimcbmgmngkagaaGreatDoorK2
import Derived.Test.YtimcbmgmngkagaaGreatDoorK3
import Derived.Test.YtimcbmgmngkagaaGreatDoorK4
import Derived.Test.YtimcbmgmngkagaaGreatDoorK5
import Derived.Test.YtimcbmgmngkagaaGreatDoorK6
import Derived.Test.YtimcbmgmngkagaaGreatDoorK7
namespace Go.Proofs.YtimcbmgmngkagaaGreatDoor
open Go.RowKit

theorem decV_fold (b : List UInt8) : ∀ acc : Nat, b.foldl (fun a c => a * 10 + (c.toNat - 48)) acc = acc * 10 ^ b.length + decV b := by
  induction b with
  | nil => intro acc; simp [decV]
  | cons c b ih =>
    intro acc
    have h1 := ih (acc * 10 + (c.toNat - 48))
    have h2 := ih (0 * 10 + (c.toNat - 48))
    have h3 : decV (c :: b) = b.foldl (fun a c => a * 10 + (c.toNat - 48)) (0 * 10 + (c.toNat - 48)) := rfl
    rw [h3, h2, List.foldl_cons, h1, List.length_cons, Nat.pow_succ, Nat.add_mul, Nat.zero_mul, Nat.zero_add, Nat.mul_assoc, Nat.mul_comm 10, Nat.add_assoc]

theorem decV_append (a b : List UInt8) : decV (a ++ b) = decV a * 10 ^ b.length + decV b := by
  show (a ++ b).foldl _ 0 = _
  rw [List.foldl_append]
  exact decV_fold b _

theorem decV_bnd {l : List UInt8} (h : l.all isDg = true) : decV l < 10 ^ l.length := by
  induction l with
  | nil => simp [decV]
  | cons c l ih =>
    rw [List.all_cons, Bool.and_eq_true] at h
    have h1 := ih h.2
    obtain ⟨h3, h4⟩ := isDg_of h.1
    have h5 := decV_append [c] l
    have h6 : decV [c] = c.toNat - 48 := by simp [decV]
    rw [List.singleton_append, h6] at h5
    have h7 : (c.toNat - 48) * 10 ^ l.length ≤ 9 * 10 ^ l.length := Nat.mul_le_mul_right _ (by omega)
    rw [h5, List.length_cons, Nat.pow_succ]
    omega

theorem all_take' {l : List UInt8} (h : l.all isDg = true) (k : Nat) : (l.take k).all isDg = true := List.all_eq_true.2 fun x hx => List.all_eq_true.1 h x (List.mem_of_mem_take hx)
theorem all_drop' {l : List UInt8} (h : l.all isDg = true) (k : Nat) : (l.drop k).all isDg = true := List.all_eq_true.2 fun x hx => List.all_eq_true.1 h x (List.mem_of_mem_drop hx)

/-- Four digits at the end. -/
theorem decV_four {ds : List UInt8} (h : ds.all isDg = true) {k : Nat} (hk : k ≤ ds.length) : decV (ds.take k) / 10000 = decV (ds.take (k - 4)) ∧ decV (ds.take k) % 10000 = decV ((ds.drop (k - 4)).take (k - (k - 4))) := by
  have h1 : ds.take k = ds.take (k - 4) ++ (ds.drop (k - 4)).take (k - (k - 4)) := by
    conv => lhs; rw [show k = (k - 4) + (k - (k - 4)) by omega]
    rw [List.take_add]
  have h2 := decV_bnd (all_take' (all_drop' h (k - 4)) (k - (k - 4)))
  have h3 : ((ds.drop (k - 4)).take (k - (k - 4))).length = k - (k - 4) := by rw [List.length_take, List.length_drop]; omega
  rw [h3] at h2
  have h4 := decV_append (ds.take (k - 4)) ((ds.drop (k - 4)).take (k - (k - 4)))
  rw [← h1, h3] at h4
  rw [h4]
  by_cases h5 : 4 ≤ k
  · rw [show k - (k - 4) = 4 by omega] at h2 ⊢
    have h6 : (10 : Nat) ^ 4 = 10000 := by decide
    rw [h6] at h2 ⊢
    omega
  · have h6 : k - 4 = 0 := by omega
    rw [h6] at h2 ⊢
    have h7 : decV (ds.take 0) = 0 := by simp [decV]
    have h8 : (10 : Nat) ^ (k - 0) ≤ 10 ^ 4 := Nat.pow_le_pow_right (by decide) (by omega)
    have h9 : (10 : Nat) ^ 4 = 10000 := by decide
    rw [h7, Nat.zero_mul, Nat.zero_add]
    omega

/-- A part of the digits, one digit more. -/
theorem decV_seg {ds : List UInt8} {a i : Nat} (ha : a ≤ i) (hi : i < ds.length) : decV ((ds.drop a).take (i + 1 - a)) = decV ((ds.drop a).take (i - a)) * 10 + (ds[i].toNat - 48) := by
  have h1 : i + 1 - a = (i - a) + 1 := by omega
  have h2 : i - a < (ds.drop a).length := by rw [List.length_drop]; omega
  rw [h1, List.take_succ_eq_append_getElem h2, decV_snoc, List.getElem_drop]
  have h3 : a + (i - a) = i := by omega
  simp only [h3]

set_option maxRecDepth 100000 in
set_option maxHeartbeats 2000000 in
theorem rparse_core (neg : Bool) (l ds : List UInt8) (mi : Int) (w : World) (hl : ds.length ≤ 1000000000) (hds : ds.all isDg = true)
    (hmin : ∀ W, Calls Tryz.prog 71 #[.string ⟨l.toArray⟩] W fun e w' => e = .returned (.int .i64 mi) ∧ w' = W) (hmi : (mi == 1) = neg) (hm0 : 0 ≤ mi) (hm1 : mi ≤ 1)
    (hsl : ∀ W, (Instr.sliceAt 9 (.string ⟨l.toArray⟩) (some (.int .i64 mi)) none none).run Tryz.prog W = .ok (.string ⟨ds.toArray⟩) W) :
    Calls Tryz.prog 16 #[.string ⟨l.toArray⟩] w (RV w (sv neg (decV ds)) ds.length) := by
  have hsz : (⟨ds.toArray⟩ : ByteArray).size = ds.length := by show ds.toArray.size = _; simp
  have hb0 : Below w.heap.size w (w.alloc (.cells #[.bool false, .slice none 0 0] 31)) := (Below.refl _ w).alloc (Nat.le_refl _) _
  have b0 := Boxed2.new w (.bool false) (.slice none 0 0) 31
  have HDS := Lib.hid hds
  have HB := Lib.hid hb0
  have HB0 := Lib.hid b0
  have HM := Lib.hid hmin
  clear hds hmin hb0 b0
  go_enter Tryz.func16, Tryz.ntmps16
  go_wp2_with (go_at_call 71; refine (HM.out _).mono ?_; rintro e w' ⟨rfl, rfl⟩)
  obtain ⟨L, hL⟩ : ∃ L, ds.length = L := ⟨_, rfl⟩
  rw [hL] at hl hsz
  rw [hL]
  have HLL := Lib.hid hL
  generalize hw1 : w.alloc (.cells #[.bool false, .slice none 0 0] 31) = w1 at *
  have HW1 := Lib.hid hw1
  have hsz0 : w.heap.size + 1 ≤ w1.heap.size := by rw [← hw1]; simp
  clear hL hw1
  go_loopw [4, 5] (fun v4 v5 wr => ∃ (ti : Int) (ns : List Nat), ti ≤ (L : Int) ∧ -4 ≤ ti ∧ v5 = .int .i64 ti ∧ Hid (SplitI (decV ds) (decV (ds.take ti.toNat)) ns) ∧ ns.length + ti.toNat ≤ L ∧ GrI wr (w.heap.size + 1) v4 ns ∧ w.heap.size + 1 ≤ wr.heap.size ∧ Below (w.heap.size + 1) w1 wr) (fun _ v5 _ => (Go.RowKit.intOf v5).toNat)
  case atStart =>
    refine ⟨(L : Int), [], by omega, by omega, rfl, ⟨Dg.nil _, ?_⟩, by simp, GrI.nil _ _, hsz0, Below.refl _ _⟩
    rw [Int.toNat_natCast, List.take_of_length_le (by rw [HLL.out]; exact Nat.le_refl _)]
    simp [dv]
  case round =>
    obtain ⟨ti, ns, hti, hti4, rfl, HS, hns, hgr, hsz2, hb⟩ := hrel
    by_cases h0 : 0 < ti
    · obtain ⟨k, rfl⟩ : ∃ k : Nat, ti = (k : Int) := ⟨ti.toNat, by omega⟩
      rw [Int.toNat_natCast] at HS hns
      have hmax : max (0 : Int) ((k : Int) - 4) = ((k - 4 : Nat) : Int) := by omega
      obtain ⟨f1, f2⟩ := decV_four HDS.out (k := k) (by rw [HLL.out]; omega)
      have hst := HS.out.step
      rw [f1, f2] at hst
      have HST := Lib.hid hst
      have hka : k - 4 ≤ k := by omega
      have hka4 : k - (k - 4) ≤ 4 := by omega
      have hk4 : ((k : Int) - 4).toNat = k - 4 := by omega
      have HK4 := Lib.hid hk4
      have hlow : 0 < k := by omega
      generalize k - 4 = a at hmax HST hka hka4 HK4
      have HKA := Lib.hid hka4
      clear f1 f2 hst hka4 hk4
      go_wp2_with fail
      go_loop [6, 7] (fun v6 v7 => ∃ (i x : Nat), v7 = .int .i64 (i : Int) ∧ v6 = .int .i64 (x : Int) ∧ a ≤ i ∧ i ≤ k ∧ x ≤ 9999 ∧ Hid (decV ((ds.drop a).take (i - a)) = x)) (fun _ v7 => k - (Go.RowKit.intOf v7).toNat)
      case atStart => exact ⟨a, 0, rfl, rfl, Nat.le_refl _, hka, by omega, by show decV _ = 0; rw [Nat.sub_self]; simp [decV]⟩
      case round =>
        obtain ⟨i, x, rfl, rfl, hai, hik, hx, HX⟩ := hrel
        by_cases hlt : i < k
        · have hil : i < ds.length := by rw [HLL.out]; omega
          have his : i < (⟨ds.toArray⟩ : ByteArray).size := by rw [hsz]; omega
          have hbyte : (⟨ds.toArray⟩ : ByteArray)[i]'his = ds[i] := rfl
          obtain ⟨d1, d2⟩ := isDg_of (List.all_eq_true.1 HDS.out _ (List.getElem_mem hil))
          have hseg := decV_seg hai hil
          have hx999 : x ≤ 999 := by
            have h1 := decV_bnd (all_take' (all_drop' HDS.out a) (i - a))
            rw [HX.out] at h1
            have h2 : (10 : Nat) ^ ((ds.drop a).take (i - a)).length ≤ 10 ^ 3 := Nat.pow_le_pow_right (by decide) (by rw [List.length_take]; have := HKA.out; omega)
            have h3 : (10 : Nat) ^ 3 = 1000 := by decide
            omega
          obtain ⟨cc, hcc⟩ : ∃ cc : Nat, ds[i].toNat = cc := ⟨_, rfl⟩
          have hb' : ((⟨ds.toArray⟩ : ByteArray)[i]'his).toNat = cc := by rw [hbyte, hcc]
          rw [hcc] at hseg d1 d2
          rw [HX.out] at hseg
          have HSEG := Lib.hid hseg
          clear hseg hcc hbyte hx
          go_wp2_with fail
          go_round
          case rel => exact ⟨i + 1, x * 10 + (cc - 48), by go_num, by congr 1; omega, by omega, by omega, by omega, HSEG.out⟩
          case measure => simp [Go.RowKit.intOf]; omega
        · obtain rfl : i = k := by omega
          have hst := HST.out
          rw [HX.out] at hst
          have HST2 := Lib.hid hst
          clear hst
          go_wp2_with (at_builtin; refine pushI_law rfl _ _ rfl rfl hgr x rfl (by omega) hsz2 ?_; intro v' w' hgr' hb')
          go_roundw
          case rel =>
            refine ⟨(i : Int) - 4, ns ++ [x], by omega, by omega, rfl, ?_, ?_, hgr', Nat.le_trans hsz2 hb'.size, hb.trans hb'⟩
            · rw [HK4.out]; exact HST2.out
            · rw [HK4.out, List.length_append, List.length_singleton]; have := HK4.out; omega
          case measure => simp [Go.RowKit.intOf]; omega
    · have hto : ti.toNat = 0 := by omega
      rw [hto] at HS hns
      have hv : dv BR ns = decV ds := by have := HS.out.2; simpa [decV] using this
      have HDG := Lib.hid HS.out.1
      have HV := Lib.hid hv
      clear hto hv
      obtain ⟨p, c, rfl, hc, hrd⟩ := hgr.rd
      have hbx := HB0.out.below hb (by omega)
      have hbw := HB.out.trans (hb.mono (by omega))
      go_wp2_with (go_at_call 72; refine (rnumber_any _ _ _ _ ns _ (by unfold maxLen; omega) hc hrd HDG.out).mono ?_; rintro e w2 ⟨neg2, p2, n2, c2, xs2, rfl, hx2, hn2, hb2⟩; have b2 := hbx.below hb2 hbx.lt; have c20 := b2.cell0; have c21 := b2.cell1; have q20 := b2.frozen (i := 0); have q21 := b2.frozen (i := 1))
      have b3 := b2.set (.bool neg2) (.slice p2 n2 c2)
      have z0 := b3.cell0
      have z1 := b3.cell1
      refine bodyPost_ret (v := .agg #[.bool neg2, .slice p2 n2 c2]) (by simp [results, Tryz.results16, go_sem, z0, z1]) rfl ⟨neg2, p2, n2, c2, xs2, rfl, { rd := (hx2.rd.boxI b2 _).boxI (b2.set0 _) _, cap := hx2.cap, cn := hx2.cn, pos := hx2.pos, val := ?_ }, by have := HLL.out; omega, ((hbw.trans (hb2.mono hbw.size)).setCell (by simp) _).setCell (by simp) _⟩
      rw [← hx2.val, HV.out]

/-- The integer of a string that has the form. -/
theorem rparse_any (l : List UInt8) (w : World) (hl : l.length ≤ 1000000000) (hp : plainB l = true) :
    Calls Tryz.prog 16 #[.string ⟨l.toArray⟩] w (RV w (strV l) l.length) := by
  unfold plainB at hp
  simp only [Bool.and_eq_true] at hp
  have hds := hp.1.2
  cases l with
  | nil => simp [digitsOf] at hp
  | cons c t =>
    by_cases h : c = 45
    · subst h
      have hd : digitsOf (45 :: t) = t := by simp [digitsOf]
      rw [hd] at hds
      have hv : strV (45 :: t) = sv true (decV t) := by unfold strV; rw [hd]; simp [isNeg, sv]
      rw [hv]
      refine (rparse_core true (45 :: t) t 1 w (by simp at hl; omega) hds (fun W => (minus_any (45 :: t) W).mono ?_) rfl (by omega) (by omega) (fun W => ?_)).mono ?_
      · rintro e w' ⟨rfl, rfl⟩; exact ⟨rfl, rfl⟩
      · have hsz1 : (⟨((45 : UInt8) :: t).toArray⟩ : ByteArray).size = t.length + 1 := by show ((45 : UInt8) :: t).toArray.size = _; simp
        rw [run_sliceAt_string W 9 _ _ _ _ Tryz.underlying9, run_slice_string_l W 9 _ Tryz.underlying9 .i64 (1 : Int) (by omega) (by rw [hsz1]; omega)]
        exact congrArg (fun b => Result.ok (Value.string b) W) (tail_bytes 45 t)
      · rintro e w' ⟨n1, p1, n2, c1, xs, h1, h2, h3, h4⟩
        exact ⟨n1, p1, n2, c1, xs, h1, h2, by simp; omega, h4⟩
    · have hd : digitsOf (c :: t) = c :: t := by simp [digitsOf, h]
      have hn : isNeg (c :: t) = false := by simp [isNeg, h]
      rw [hd] at hds
      have hv : strV (c :: t) = sv false (decV (c :: t)) := by unfold strV; rw [hd, hn]; simp [sv]
      rw [hv]
      refine (rparse_core false (c :: t) (c :: t) 0 w hl hds (fun W => (minus_any (c :: t) W).mono ?_) rfl (by omega) (by omega) (fun W => ?_))
      · rintro e w' ⟨rfl, rfl⟩; rw [hn]; exact ⟨rfl, rfl⟩
      · rw [run_sliceAt_string W 9 _ _ _ _ Tryz.underlying9, run_slice_string_l W 9 _ Tryz.underlying9 .i64 (0 : Int) (by omega) (by omega)]
        refine congrArg (fun b => Result.ok (Value.string b) W) ?_
        apply ByteArray.ext
        simp

end Go.Proofs.YtimcbmgmngkagaaGreatDoor

namespace Go.Proofs.YtimcbmgmngkagaaGreatDoor
open Go.RowKit

set_option maxHeartbeats 1000000 in
theorem ris_any (l : List UInt8) (w : World) (hl : l.length ≤ 1000000000) :
    Calls Tryz.prog 32 #[.string ⟨l.toArray⟩] w fun e w' => e = .returned (.bool (numB l)) ∧ w' = w := by
  have hsz : (⟨l.toArray⟩ : ByteArray).size = l.length := by show l.toArray.size = _; simp
  have HM := Lib.hid (fun W => minus_any l W)
  have HP := Lib.hid (fun W => plain_any l W (by unfold maxLen; omega))
  cases hp : plainB l
  · have hn : numB l = false := by unfold numB; rw [hp]; rfl
    rw [hn]
    have HPP := Lib.hid hp
    clear hp hn
    go_enter Tryz.func32, Tryz.ntmps32
    go_wp2_with (go_at_call 85; refine (HP.out _).mono ?_; rintro e w' ⟨rfl, rfl⟩; rw [HPP.out])
    go_ret
    exact ⟨rfl, rfl⟩
  · have hd : (digitsOf l).length = l.length - (if isNeg l then 1 else 0) := by
      cases l with
      | nil => rfl
      | cons c t =>
        by_cases h : c = 45
        · subst h; simp [digitsOf, isNeg]
        · simp [digitsOf, isNeg, h]
    have hpos : (if isNeg l then 1 else 0) ≤ l.length := by
      cases l with
      | nil => simp [plainB, digitsOf] at hp
      | cons c t => split <;> simp
    have hn : numB l = decide ((digitsOf l).length ≤ 2000) := by unfold numB; rw [hp]; rfl
    rw [hn]
    have HPP := Lib.hid hp
    obtain ⟨mi, hmi⟩ : ∃ mi : Nat, (if isNeg l then 1 else 0) = mi := ⟨_, rfl⟩
    have hmi' : (if isNeg l then 1 else 0 : Int) = (mi : Int) := by rw [← hmi]; split <;> rfl
    rw [hmi] at hd hpos
    have HMI := Lib.hid hmi'
    have HD := Lib.hid hd
    have hm1 : mi ≤ 1 := by rw [← hmi]; split <;> omega
    clear hp hn hmi hmi' hd
    by_cases hle : (l.length : Int) - (mi : Int) ≤ 2000
    all_goals
      go_enter Tryz.func32, Tryz.ntmps32
      go_wp2_with (first
        | (go_at_call 85; refine (HP.out _).mono ?_; rintro e w' ⟨rfl, rfl⟩; rw [HPP.out])
        | (go_at_call 71; refine (HM.out _).mono ?_; rintro e w' ⟨rfl, rfl⟩; rw [HMI.out]))
      go_ret
      refine ⟨ret_val ?_, rfl⟩
      rw [HD.out]
      congr 1
      simp <;> omega

theorem take_bytes (l : List UInt8) (n : Nat) : (⟨l.toArray⟩ : ByteArray).extract 0 n = ⟨(l.take n).toArray⟩ := by
  apply ByteArray.ext
  rw [ByteArray.data_extract]
  show l.toArray.extract 0 n = _
  simp

theorem run_cut (l : List UInt8) (n : Nat) (W : World) (h : n ≤ l.length) : (Instr.sliceAt 9 (.string ⟨l.toArray⟩) none (some (.int .i64 (n : Int))) none).run Tryz.prog W = .ok (.string ⟨(l.take n).toArray⟩) W := by
  have hsz : (⟨l.toArray⟩ : ByteArray).size = l.length := by show l.toArray.size = _; simp
  rw [run_sliceAt_string W 9 _ _ _ _ Tryz.underlying9, run_slice_string_h W 9 _ Tryz.underlying9 .i64 (n : Int) (by omega) (by rw [hsz]; omega)]
  rw [Int.toNat_natCast, take_bytes]

set_option maxHeartbeats 1000000 in
theorem part_any (l : List UInt8) (most : Nat) (w : World) (hl : l.length ≤ 9223372036854775807) (hm : most ≤ 1000000) :
    Calls Tryz.prog 12 #[.string ⟨l.toArray⟩, .int .i64 (most : Int)] w fun e w' => e = .returned (.string ⟨(l.take most).toArray⟩) ∧ w' = w := by
  have hsz : (⟨l.toArray⟩ : ByteArray).size = l.length := by show l.toArray.size = _; simp
  have hmin : min (l.length : Int) (most : Int) = ((min l.length most : Nat) : Int) := by omega
  have hcut := run_cut l (min l.length most) w (Nat.min_le_left _ _)
  have htk : l.take (min l.length most) = l.take most := by
    by_cases h : most ≤ l.length
    · rw [Nat.min_eq_right h]
    · rw [Nat.min_eq_left (by omega), List.take_of_length_le (Nat.le_refl _), List.take_of_length_le (by omega)]
  rw [htk] at hcut
  have hlt : min l.length most ≤ l.length := Nat.min_le_left _ _
  generalize min l.length most = n at hmin hcut hlt
  clear htk
  go_enter Tryz.func12, Tryz.ntmps12
  go_wp2_with fail
  go_ret
  exact ⟨rfl, rfl⟩

end Go.Proofs.YtimcbmgmngkagaaGreatDoor

namespace Go.Proofs.YtimcbmgmngkagaaGreatDoor
open Go.RowKit

/-- What has been written: digits, no 0 in front. -/
def ClnI (most i : Nat) (o : List UInt8) : Prop := o.all isDg = true ∧ o.head? ≠ some 48 ∧ o.length ≤ most ∧ o.length ≤ i

theorem ClnI.skip {most i : Nat} {o : List UInt8} (h : ClnI most i o) : ClnI most (i + 1) o := ⟨h.1, h.2.1, h.2.2.1, by have := h.2.2.2; omega⟩

theorem ClnI.push {most i d : Nat} {o : List UInt8} (h : ClnI most i o) (hd : d < 10) (hlt : o.length < most) (hp : 0 < d ∨ 0 < o.length) : ClnI most (i + 1) (o ++ [UInt8.ofNat (48 + d)]) := by
  obtain ⟨h1, h2, h3, h4⟩ := h
  have ht : (UInt8.ofNat (48 + d)).toNat = 48 + d := by simp; omega
  refine ⟨?_, ?_, by simp; omega, by simp; omega⟩
  · rw [List.all_append, h1]; simp [isDg, ht]; omega
  · cases o with
    | nil =>
      have hp' : 0 < d := by simpa using hp
      rw [List.nil_append]
      intro e
      have h5 := congrArg UInt8.toNat (Option.some.inj (show some (UInt8.ofNat (48 + d)) = some 48 from e))
      rw [ht] at h5
      have h6 : (48 : UInt8).toNat = 48 := rfl
      omega
    | cons c t => simpa using h2

/-- A number of at most so many digits. -/
def CleanIs (most : Nat) (l : List UInt8) : Prop := numB l = true ∧ (digitsOf l).length ≤ most ∧ l.length ≤ most + 1

theorem clean_zero {most : Nat} (h : 1 ≤ most) : CleanIs most [48] := ⟨by decide, by simp [digitsOf]; omega, by simp⟩

theorem clean_of {most i : Nat} {o : List UInt8} (h : ClnI most i o) (hm : most ≤ 2000) (hne : o ≠ []) : CleanIs most o ∧ CleanIs most (45 :: o) := by
  obtain ⟨h1, h2, h3, _⟩ := h
  cases o with
  | nil => exact absurd rfl hne
  | cons c t =>
    have hc : c ≠ 45 := by
      rintro rfl
      rw [List.all_cons] at h1
      simp [isDg] at h1
    have hd : digitsOf (c :: t) = c :: t := by simp [digitsOf, hc]
    have hd2 : digitsOf (45 :: c :: t) = c :: t := by simp [digitsOf]
    have h48 : ((c :: t).head? != some 48) = true := by simpa using h2
    refine ⟨⟨?_, by rw [hd]; exact h3, by omega⟩, ⟨?_, by rw [hd2]; exact h3, by simp at h3 ⊢; omega⟩⟩
    · unfold numB plainB; rw [hd, h1, h48]; simp at h3 ⊢; omega
    · unfold numB plainB; rw [hd2, h1, h48]; simp at h3 ⊢; omega

set_option maxRecDepth 100000 in
set_option maxHeartbeats 2000000 in
theorem clean_any (l : List UInt8) (most : Nat) (w : World) (hl : l.length ≤ 9223372036854775807) (hm1 : 1 ≤ most) (hm : most ≤ 2000) :
    Calls Tryz.prog 21 #[.string ⟨l.toArray⟩, .int .i64 (most : Int)] w fun e w' => (∃ l', CleanIs most l' ∧ e = .returned (.string ⟨l'.toArray⟩)) ∧ Below w.heap.size w w' := by
  have hsz : (⟨l.toArray⟩ : ByteArray).size = l.length := by show l.toArray.size = _; simp
  obtain ⟨L, hL⟩ : ∃ L, l.length = L := ⟨_, rfl⟩
  rw [hL] at hl hsz
  have HL := Lib.hid hL
  clear hL
  go_enter Tryz.func21, Tryz.ntmps21
  go_wp2_with fail
  go_loopw [5, 6] (fun v5 v6 wr => ∃ (i : Nat) (o : List UInt8), i ≤ L ∧ v6 = .int .i64 (i : Int) ∧ Hid (ClnI most i o) ∧ GrB wr w.heap.size v5 o ∧ w.heap.size ≤ wr.heap.size ∧ Below w.heap.size w wr) (fun _ v6 _ => L - (Go.RowKit.intOf v6).toNat)
  case atStart => exact ⟨0, [], Nat.zero_le _, rfl, ⟨rfl, by simp, Nat.zero_le _, Nat.le_refl _⟩, GrB.nil _ _, Nat.le_refl _, Below.refl _ _⟩
  case round =>
    obtain ⟨i, o, hi, rfl, HC, hgr, hsz2, hb⟩ := hrel
    obtain ⟨pp, cp, rfl⟩ := hgr.form
    have hol := HC.out.2.2.1
    by_cases hgo : i < L ∧ o.length < most
    · obtain ⟨hlt, hom⟩ := hgo
      have his : i < (⟨l.toArray⟩ : ByteArray).size := by rw [hsz]; exact hlt
      obtain ⟨bb, hbb⟩ : ∃ bb : Nat, ((⟨l.toArray⟩ : ByteArray)[i]'his).toNat = bb := ⟨_, rfl⟩
      have hb256 : bb < 256 := by rw [← hbb]; exact UInt8.toNat_lt _
      have hmod : (bb : Int) % 10 = ((bb % 10 : Nat) : Int) := by omega
      have hd10 : bb % 10 < 10 := Nat.mod_lt _ (by decide)
      generalize bb % 10 = d at hmod hd10
      have hd48 : (48 : Int) + (d : Int) = ((48 + d : Nat) : Int) := by omega
      have hil : (i : Int) < (L : Int) := by omega
      have hol' : (o.length : Int) < (most : Int) := by omega
      have HPU := fun h => HC.out.push hd10 hom h
      have HPH := Lib.hid HPU
      have HSK := Lib.hid HC.out.skip
      clear HPU
      have hd256 : 48 + d < 256 := by omega
      by_cases hz : d = 0 ∧ o.length = 0
      · obtain ⟨rfl, ho0⟩ := hz
        obtain rfl : o = [] := List.length_eq_zero_iff.1 ho0
        clear hd48 hd256
        have hl0 : ([] : List UInt8).length = 0 := rfl
        go_wp2_with fail
        go_roundw
        case rel => exact ⟨i + 1, [], by omega, by go_num, HSK.out, hgr, hsz2, hb⟩
        case measure => simp [Go.RowKit.intOf]; omega
      · have hpp : 0 < d ∨ 0 < o.length := by omega
        have HPP := Lib.hid (HPH.out hpp)
        by_cases hd0 : d = 0
        · subst hd0
          have hl0 : 0 < o.length := by omega
          have HPP' : Hid (ClnI most (i + 1) (o ++ [UInt8.ofNat 48])) := HPP.out
          clear hz hpp hd48 hd256
          go_wp2_with (at_builtin; refine pushB_law rfl _ _ rfl rfl hgr 48 (by decide) rfl (by omega) hsz2 ?_; intro v' w' hgr' hb')
          go_roundw
          case rel => exact ⟨i + 1, o ++ [UInt8.ofNat 48], by omega, by go_num, HPP'.out, hgr', Nat.le_trans hsz2 hb'.size, hb.trans hb'⟩
          case measure => simp [Go.RowKit.intOf]; omega
        · have hc48 : (48 : Int) < ((48 + d : Nat) : Int) := by omega
          generalize h8 : 48 + d = d8 at hd48 hd256 HPP hc48
          have hd0' : 0 < d := by omega
          clear hz hpp hd0 h8
          go_wp2_with (at_builtin; refine pushB_law rfl _ _ rfl rfl hgr d8 hd256 rfl (by omega) hsz2 ?_; intro v' w' hgr' hb')
          go_roundw
          case rel => exact ⟨i + 1, o ++ [UInt8.ofNat d8], by omega, by go_num, HPP.out, hgr', Nat.le_trans hsz2 hb'.size, hb.trans hb'⟩
          case measure => simp [Go.RowKit.intOf]; omega
    · have hfin : ∀ e W, e = Ending.returned (.string ⟨(if o.length = 0 then [48] else o).toArray⟩) ∨ (o.length ≠ 0 ∧ e = Ending.returned (.string ⟨(45 :: o).toArray⟩)) → Below w.heap.size w W → ((∃ l', CleanIs most l' ∧ e = .returned (.string ⟨l'.toArray⟩)) ∧ Below w.heap.size w W) := by
        intro e W he hW
        refine ⟨?_, hW⟩
        by_cases ho : o = []
        · subst ho
          rcases he with rfl | ⟨h, _⟩
          · exact ⟨[48], clean_zero hm1, rfl⟩
          · exact absurd rfl h
        · have ho' : o.length ≠ 0 := fun h => ho (List.length_eq_zero_iff.1 h)
          obtain ⟨c1, c2⟩ := clean_of HC.out hm ho
          rcases he with rfl | ⟨_, rfl⟩
          · rw [if_neg ho']; exact ⟨o, c1, rfl⟩
          · exact ⟨45 :: o, c2, rfl⟩
      have HFIN := Lib.hid hfin
      clear hfin
      by_cases ho0 : o.length = 0
      · by_cases hiL : i < L
        · have hom : ¬ (o.length < most) := fun h => hgo ⟨hiL, h⟩
          omega
        · have hz0 : ((o.length : Int) == 0) = true := by simp; exact List.length_eq_zero_iff.1 ho0
          have hiL' : ¬ ((i : Int) < (L : Int)) := by omega
          have HO := Lib.hid ho0
          clear hgo ho0 hiL
          go_wp2_with fail
          go_ret
          exact HFIN.out _ _ (.inl (by rw [if_pos HO.out]; rfl)) hb
      · have hz0 : ((o.length : Int) == 0) = false := by simp; intro e; exact ho0 (by rw [e]; rfl)
        have hL0 : 0 < L := by have := HC.out.2.2.2; omega
        have hls : 0 < (⟨l.toArray⟩ : ByteArray).size := by rw [hsz]; exact hL0
        obtain ⟨b0, hb0⟩ : ∃ b0 : Nat, ((⟨l.toArray⟩ : ByteArray)[0]'hls).toNat = b0 := ⟨_, rfl⟩
        have hb256 : b0 < 256 := by rw [← hb0]; exact UInt8.toNat_lt _
        have hcv := text_convert hgr (fun e => ho0 (by rw [e]; rfl))
        have HO := Lib.hid ho0
        have hmod3 : (b0 : Int) % 3 = ((b0 % 3 : Nat) : Int) := by omega
        generalize b0 % 3 = r3 at hmod3
        have hov : ¬ (9223372036854775807 < 1 + o.length) := by omega
        by_cases hi : i < L
        · have hno : ¬ (o.length < most) := fun h => hgo ⟨hi, h⟩
          have hom : ¬ ((o.length : Int) < (most : Int)) := by omega
          have hiL' : (i : Int) < (L : Int) := by omega
          clear hgo ho0 hno
          by_cases h3 : r3 = 0
          · subst h3
            go_wp2_with fail
            go_ret
            exact HFIN.out _ _ (.inr ⟨HO.out, ret_val (congrArg Value.string (by apply ByteArray.ext; simp))⟩) hb
          · have h3z : ((r3 : Int) == 0) = false := by simp; omega
            go_wp2_with fail
            go_ret
            exact HFIN.out _ _ (.inl (by rw [if_neg HO.out]; rfl)) hb
        · have hiL' : ¬ ((i : Int) < (L : Int)) := by omega
          clear hgo ho0
          by_cases h3 : r3 = 0
          · subst h3
            go_wp2_with fail
            go_ret
            exact HFIN.out _ _ (.inr ⟨HO.out, ret_val (congrArg Value.string (by apply ByteArray.ext; simp))⟩) hb
          · have h3z : ((r3 : Int) == 0) = false := by simp; omega
            go_wp2_with fail
            go_ret
            exact HFIN.out _ _ (.inl (by rw [if_neg HO.out]; rfl)) hb

end Go.Proofs.YtimcbmgmngkagaaGreatDoor

namespace Go.Proofs.YtimcbmgmngkagaaGreatDoor
open Go.Lib

theorem dec_says (u : Nat) : (decDigits u).all isDg = true ∧ decV (decDigits u) = u ∧ decDigits u ≠ [] ∧ (0 < u → (decDigits u).head? ≠ some 48) := by
  induction u using Nat.strongRecOn with
  | _ u ih =>
    have key : ∀ d, d < 10 → (UInt8.ofNat (48 + d)).toNat = 48 + d := fun d hd => by simp; omega
    by_cases h : u < 10
    · have e : decDigits u = [UInt8.ofNat (48 + u)] := by rw [decDigits.eq_1, dif_pos h]
      have k := key u h
      rw [e]
      refine ⟨?_, ?_, by simp, fun h0 => ?_⟩
      · rw [List.all_cons, List.all_nil, Bool.and_true]; unfold isDg; rw [k]; simp; omega
      · unfold decV; rw [List.foldl_cons, List.foldl_nil, k]; omega
      · intro e2
        have h5 := congrArg UInt8.toNat (Option.some.inj (show some (UInt8.ofNat (48 + u)) = some 48 from e2))
        rw [k] at h5
        have h6 : (48 : UInt8).toNat = 48 := rfl
        omega
    · have e : decDigits u = decDigits (u / 10) ++ [UInt8.ofNat (48 + u % 10)] := by rw [decDigits.eq_1, dif_neg h]
      obtain ⟨h1, h2, h3, h4⟩ := ih (u / 10) (by omega)
      have k := key (u % 10) (by omega)
      rw [e]
      refine ⟨?_, ?_, by simp, fun h0 => ?_⟩
      · rw [List.all_append, h1, List.all_cons, List.all_nil, Bool.and_true, Bool.true_and]; unfold isDg; rw [k]; simp; omega
      · rw [decV_snoc, h2, k]; omega
      · cases hd : decDigits (u / 10) with
        | nil => exact absurd hd h3
        | cons c t => have := h4 (by omega); rw [hd] at this; simpa using this

theorem itoa_says (z : Int) : plainB (itoa z) = true ∧ strV (itoa z) = z ∧ (digitsOf (itoa z)).length = nDigits z.natAbs := by
  by_cases h : 0 ≤ z
  · obtain ⟨u, rfl⟩ : ∃ u : Nat, z = (u : Int) := ⟨z.toNat, by omega⟩
    obtain ⟨h1, h2, h3, h4⟩ := dec_says u
    rw [itoa_nonneg]
    have h0 : u = 0 → decDigits u = [48] := fun e => by rw [e]; decide +kernel
    have hlen := decDigits_length u
    cases hd : decDigits u with
    | nil => exact absurd hd h3
    | cons c t =>
      rw [hd] at h1 h2 h4 h0 hlen
      have hc : c ≠ 45 := by
        rintro rfl
        rw [List.all_cons] at h1
        simp [isDg] at h1
      have hds : digitsOf (c :: t) = c :: t := by simp [digitsOf, hc]
      have hn : isNeg (c :: t) = false := by simp [isNeg, hc]
      refine ⟨?_, ?_, ?_⟩
      · unfold plainB; rw [hds, h1]
        by_cases hu : 0 < u
        · have := h4 hu; simp at this; simp [this]
        · have := h0 (by omega); simp [this]
      · unfold strV; rw [hds, hn, h2]; rfl
      · rw [hds, hlen]; simp
  · obtain ⟨u, rfl⟩ : ∃ u : Nat, z = -(u : Int) := ⟨(-z).toNat, by omega⟩
    have hu : 1 ≤ u := by omega
    obtain ⟨h1, h2, h3, h4⟩ := dec_says u
    rw [itoa_neg u hu]
    have hds : digitsOf (45 :: decDigits u) = decDigits u := by simp [digitsOf]
    have hn : isNeg (45 :: decDigits u) = true := by simp [isNeg]
    refine ⟨?_, ?_, ?_⟩
    · unfold plainB; rw [hds, h1]
      have := h4 (by omega)
      have h5 : (decDigits u).isEmpty = false := by cases hd : decDigits u with
        | nil => exact absurd hd h3
        | cons c t => rfl
      simp [h5, this]
    · unfold strV; rw [hds, hn, h2]; rfl
    · rw [hds, decDigits_length, Int.natAbs_neg, Int.natAbs_natCast]

end Go.Proofs.YtimcbmgmngkagaaGreatDoor

namespace Go.Proofs.YtimcbmgmngkagaaGreatDoor
open Go.RowKit

theorem long_itoa (z : Int) : longB z = decide (2000 < ((digitsOf (Lib.itoa z)).length)) := by
  rw [(itoa_says z).2.2]
  unfold longB nd0
  split
  · rename_i h; rw [h]; decide +kernel
  · rfl

theorem calls_flip' {f : FuncId} {a : Array Value} {w : World} {Q : Ending → Prop} (h : Calls Tryz.prog f a w fun e w' => Q e ∧ w' = w) : Calls Tryz.prog f a w fun e w' => Q e ∧ w = w' := h.mono fun _ _ ⟨x, y⟩ => ⟨x, y.symm⟩

/-- Lists of bytes. -/
def RdL (w : World) (a : Option Addr) (l : List (List UInt8)) : Prop := ∀ i s, l[i]? = some s → ∃ b off, a = some ⟨b, off, none⟩ ∧ b < w.heap.size ∧ w.cell? ⟨b, off + i, none⟩ = some (.string ⟨s.toArray⟩)
def allN (l : List (List UInt8)) : Bool := l.all numB

theorem RdL.below {w w' : World} {a : Option Addr} {l : List (List UInt8)} (h : RdL w a l) (hb : Below w.heap.size w w') : RdL w' a l := by
  intro i s hi
  obtain ⟨b, off, ha, hlt, hc⟩ := h i s hi
  exact ⟨b, off, ha, Nat.lt_of_lt_of_le hlt hb.size, (hb.cell (p := ⟨b, _, none⟩) hlt).trans hc⟩

def formE (b : Bool) : Int := if b then 0 else 6

set_option maxHeartbeats 1000000 in
theorem form_any (a : Option Addr) (n c : Nat) (l : List (List UInt8)) (w : World) (hl : l.length = n) (hn : n ≤ 1000000000) (hr : RdL w a l) (hs : ∀ s ∈ l, s.length ≤ 1000000000) :
    Calls Tryz.prog 15 #[.slice a n c] w fun e w' => e = .returned (.int .i64 (formE (allN l))) ∧ w = w' := by
  have HL := Lib.hid hl
  have HR := Lib.hid hr
  have HS := Lib.hid hs
  clear hl hr hs
  go_enter Tryz.func15, Tryz.ntmps15
  go_wp2_with fail
  go_loop [3] (fun v3 => ∃ i : Nat, i ≤ n ∧ v3 = .int .i64 (i : Int) ∧ Hid (allN (l.take i) = true)) (fun v3 => n - (Go.RowKit.intOf v3).toNat)
  case atStart => exact ⟨0, Nat.zero_le _, rfl, rfl⟩
  case round =>
    obtain ⟨i, hi, rfl, HA⟩ := hrel
    by_cases hlt : i < n
    · have hil : i < l.length := by rw [HL.out]; exact hlt
      obtain ⟨b, off, rfl, hb, hcell⟩ := HR.out i _ (List.getElem?_eq_getElem hil)
      have hsl := HS.out _ (List.getElem_mem hil)
      have htk : allN (l.take (i + 1)) = (allN (l.take i) && numB l[i]) := by unfold allN; rw [List.take_succ_eq_append_getElem hil, List.all_append]; simp
      have hno : numB l[i] = false → allN l = false := fun h => by unfold allN; rw [List.all_eq_false]; exact ⟨l[i], List.getElem_mem _, by simp [h]⟩
      generalize l[i] = s at *
      have HTK := Lib.hid htk
      have HNO := Lib.hid hno
      have HI := Lib.hid (calls_flip' (ris_any s w hsl))
      clear htk hno
      cases hnb : numB s
      · have HNB := Lib.hid hnb
        clear hnb
        go_wp2_with fail
        refine HI.out.mono ?_
        rintro e w' ⟨rfl, rfl⟩
        rw [HNB.out]
        go_wp2_with fail
        go_ret
        exact ⟨ret_int (by rw [HNO.out HNB.out]; rfl), rfl⟩
      · have HNB := Lib.hid hnb
        clear hnb
        go_wp2_with fail
        refine HI.out.mono ?_
        rintro e w' ⟨rfl, rfl⟩
        rw [HNB.out]
        go_wp2_with fail
        go_round
        case rel => exact ⟨i + 1, by omega, by go_num, by show _ = _; rw [HTK.out, HA.out, HNB.out]; rfl⟩
        case measure => simp [Go.RowKit.intOf]; omega
    · obtain rfl : i = n := by omega
      have ha := HA.out
      rw [List.take_of_length_le (by rw [HL.out]; exact Nat.le_refl _)] at ha
      have HA2 := Lib.hid ha
      clear ha
      go_wp2_with fail
      go_ret
      exact ⟨ret_int (by rw [HA2.out]; rfl), rfl⟩

end Go.Proofs.YtimcbmgmngkagaaGreatDoor

namespace Go.Proofs.YtimcbmgmngkagaaGreatDoor
open Go.RowKit

theorem RIs.set2 {w : World} {neg : Bool} {p : Option Addr} {n c : Nat} {xs : List Nat} {z : Int} (h : RIs w neg p n c xs z) {B : Nat} {a : Bool} {q : Option Addr} {k d : Nat} {t : TypeId} (hb : Boxed2 w B (.bool a) (.slice q k d) t) (a' : Bool) (v : Value) :
    RIs ((w.setCell ⟨B, 0, none⟩ (.bool a')).setCell ⟨B, 1, none⟩ v) neg p n c xs z :=
  { h with rd := (h.rd.boxI hb _).boxI (hb.set0 (.bool a')) _ }

set_option maxRecDepth 100000 in
set_option maxHeartbeats 2000000 in
theorem rsub_any (a b : Bool) (p q : Option Addr) (n c m d : Nat) (xs ys : List Nat) (x y : Int) (w : World) (hn : n ≤ 100000000) (hm : m ≤ 100000000) (hx : RIs w a p n c xs x) (hy : RIs w b q m d ys y) :
    Calls Tryz.prog 75 #[.agg #[.bool a, .slice p n c], .agg #[.bool b, .slice q m d]] w (RV w (x - y) (max n m + 1)) := by
  have hb0 : Below w.heap.size w ((((w.alloc (.cells #[.bool a, .slice p n c] 31)).alloc (.cells #[.bool b, .slice q m d] 31)).alloc (.cells #[.bool false, .slice none 0 0] 31)).drew) :=
    ((((Below.refl _ w).alloc (Nat.le_refl _) _).alloc (by simp) _).alloc (by rw [World.size_alloc, World.size_alloc]; omega) _).drew
  have hx1 := hx.below hb0
  have hy1 := hy.below hb0
  go_enter Tryz.func75, Tryz.ntmps75
  go_wp2_with fail
  go_region_held3 (fun w' => w'.cell? ⟨w.heap.size, 0, none⟩ = some (.bool a) ∧ w'.cell? ⟨w.heap.size, 1, none⟩ = some (.slice p n c) ∧ w'.cell? ⟨w.heap.size + 1, 0, none⟩ = some (.bool b) ∧ w'.cell? ⟨w.heap.size + 1, 1, none⟩ = some (.slice q m d))
    (simp [go_sem, *])
    (first
      | (go_at_call 86; refine (rneg_any _ _ _ _ ys y _ (by omega) hy1).mono ?_; rintro e w1 ⟨neg1, p1, n1, c1, xs1, rfl, hx2, hn1, hb1⟩; obtain ⟨hc1, hf1⟩ := bcell hb1; have z1 : w.heap.size < w1.heap.size := (by have := hb1.size; simp at this; omega); have z2 : w.heap.size + 1 < w1.heap.size := (by have := hb1.size; simp at this; omega); have z3 : w.heap.size + 1 + 1 < w1.heap.size := (by have := hb1.size; simp at this; omega); have hxV := hx1.below hb1)
      | (go_at_call 56; refine (radd_any _ _ _ _ _ _ _ _ xs xs1 x (-y) _ (by omega) (by omega) hxV hx2).mono ?_; rintro e w2 ⟨neg2, p2, n2, c2, xs2, rfl, hx3, hn2, hb2⟩; obtain ⟨hc2, hf2⟩ := bcell hb2))
  go_wp2_with fail
  have q0 : w2.cell? ⟨w.heap.size + 1 + 1, 0, none⟩ = some (.bool false) := by rw [hc2 _ _ z3, hc1 _ _ (by simp)]; simp [go_sem]
  have q1 : w2.cell? ⟨w.heap.size + 1 + 1, 1, none⟩ = some (.slice none 0 0) := by rw [hc2 _ _ z3, hc1 _ _ (by simp)]; simp [go_sem]
  have hbx := hb0.trans (hb1.mono (by simp <;> omega))
  obtain ⟨r0, r1, _⟩ := two_set (.bool neg2) (.slice p2 n2 c2) q0 q1
  refine bodyPost_ret (v := .agg #[.bool neg2, .slice p2 n2 c2]) (by simp [results, Tryz.results75, go_sem, r0, r1]) rfl ⟨neg2, p2, n2, c2, xs2, rfl, { rd := (hx3.rd.setOther q0 (by intro x e; cases e) _).setOther (two_set (.bool neg2) (.slice p2 n2 c2) q0 q1).2.2 (by intro x e; cases e) _, cap := hx3.cap, cn := hx3.cn, pos := hx3.pos, val := ?_ }, by omega, ((hbx.trans (hb2.mono (by omega))).setCell (by simp <;> omega) _).setCell (by simp <;> omega) _⟩
  rw [← hx3.val]; omega

end Go.Proofs.YtimcbmgmngkagaaGreatDoor

namespace Go.Proofs.YtimcbmgmngkagaaGreatDoor
open Go.RowKit

/-- i digits of x are done. -/
def RMulOut (xs ys zs : List Nat) (i : Nat) : Prop :=
  zs.length = xs.length + ys.length ∧ Dg BR zs ∧ dv BR zs = dv BR (xs.take i) * dv BR ys ∧ ∀ t, i + ys.length ≤ t → zs[t]?.getD 0 = 0

/-- Digit i of x, j places of y. -/
def RMulIn (xs ys z0 zs : List Nat) (i j c : Nat) : Prop :=
  zs.length = xs.length + ys.length ∧ Dg BR zs ∧ c < BR ∧ dv BR zs + BR ^ (i + j) * c = dv BR z0 + BR ^ i * (xs[i]?.getD 0 * dv BR (ys.take j)) ∧ (∀ t, i + 1 + ys.length ≤ t → zs[t]?.getD 0 = 0) ∧ (j ≤ ys.length → zs[i + ys.length]?.getD 0 = 0) ∧ (ys.length < j → c = 0)

theorem RMulIn.start {xs ys zs : List Nat} {i : Nat} (h : RMulOut xs ys zs i) : RMulIn xs ys zs zs i 0 0 :=
  ⟨h.1, h.2.1, by decide, by simp [dv], fun t ht => h.2.2.2 t (by omega), fun _ => h.2.2.2 _ (Nat.le_refl _), fun h => by omega⟩

theorem RMulIn.step {xs ys z0 zs : List Nat} {i j c s : Nat} (h : RMulIn xs ys z0 zs i j c) (hi : i < xs.length) (hj : j ≤ ys.length) (gx : Dg BR xs) (gy : Dg BR ys) (hs : c + zs[i + j]?.getD 0 + xs[i]?.getD 0 * ys[j]?.getD 0 = s) :
    RMulIn xs ys z0 (zs.set (i + j) (s % 10000)) i (j + 1) (s / 10000) := by
  obtain ⟨h1, h2, h3, h4, h5, h6, h7⟩ := h
  have hs' : c + (xs[i]?.getD 0 * ys[j]?.getD 0 + zs[i + j]?.getD 0) = s := by omega
  have hz := h6 hj
  refine ⟨by simp [h1], h2.set _ (Nat.mod_lt _ (by decide)), ?_, ?_, ?_, ?_, ?_⟩
  · rw [← hs']
    show _ / BR < BR
    rw [Nat.div_lt_iff_lt_mul (by decide)]
    exact mul_fits (by decide) h3 (gx.get (by decide) i) (gy.get (by decide) j) (h2.get (by decide) (i + j))
  · have g := mul_place (b := BR) (zs := zs) (at_ := i + j) (x := xs[i]?.getD 0) (w := ys[j]?.getD 0) (c := c) (by omega) rfl
    rw [hs'] at g
    have g' : dv BR (zs.set (i + j) (s % 10000)) + BR ^ (i + (j + 1)) * (s / 10000) = _ := g
    rw [g', h4, dv_take_succ, Nat.mul_add, Nat.mul_add, Nat.pow_add]
    grind
  · intro t ht
    rw [set_get_other _ _ _ _ (by omega)]; exact h5 t ht
  · intro hj'
    rw [set_get_other _ _ _ _ (by omega)]; exact hz
  · intro hj'
    have e : j = ys.length := by omega
    rw [e, hz, List.getElem?_eq_none (Nat.le_refl _)] at hs
    simp at hs
    have : BR = 10000 := rfl
    omega

theorem RMulIn.finish {xs ys z0 zs : List Nat} {i j : Nat} (h : RMulIn xs ys z0 zs i j 0) (h0 : RMulOut xs ys z0 i) (hj : ys.length ≤ j) : RMulOut xs ys zs (i + 1) := by
  obtain ⟨h1, h2, h3, h4, h5, h6, h7⟩ := h
  refine ⟨h1, h2, ?_, h5⟩
  rw [Nat.mul_zero, Nat.add_zero, List.take_of_length_le hj, h0.2.2.1] at h4
  rw [h4, dv_take_succ, Nat.add_mul, Nat.mul_assoc]

/-- make([]int, n) -/
theorem mkInts (n : Nat) (hn : n ≤ 35184372088832) (w : World) :
    (Instr.makeSlice 29 (.int .i64 (n : Int)) (.int .i64 (n : Int))).run Tryz.prog w = .ok (.slice (some ⟨w.heap.size, 0, none⟩) n n) (w.alloc (.cells (Go.madeCells #[.int .i64 0] n) 3)) :=
  run_make_row' _ _ (.int .i64 0) 8 Tryz.underlying29 Tryz.info3 rfl .i64 .i64 n (by omega) (by omega) w

set_option maxRecDepth 100000 in
set_option maxHeartbeats 4000000 in
theorem rmul_any (a b : Bool) (p q : Option Addr) (n c m d : Nat) (xs ys : List Nat) (x y : Int) (w : World) (hn : n ≤ 100000000) (hm : m ≤ 100000000) (hx : RIs w a p n c xs x) (hy : RIs w b q m d ys y) :
    Calls Tryz.prog 22 #[.agg #[.bool a, .slice p n c], .agg #[.bool b, .slice q m d]] w (RV w (x * y) (n + m)) := by
  have hb0 : Below w.heap.size w (((w.alloc (.cells #[.bool a, .slice p n c] 31)).alloc (.cells #[.bool b, .slice q m d] 31)).alloc (.cells #[.bool false, .slice none 0 0] 31)) := (((Below.refl _ w).alloc (Nat.le_refl _) _).alloc (by simp) _).alloc (by rw [World.size_alloc, World.size_alloc]; omega) _
  have b0 : Boxed2 (((w.alloc (.cells #[.bool a, .slice p n c] 31)).alloc (.cells #[.bool b, .slice q m d] 31)).alloc (.cells #[.bool false, .slice none 0 0] 31)) w.heap.size (.bool a) (.slice p n c) 31 := ((Boxed2.new w _ _ _).alloc _).alloc _
  have b1 : Boxed2 (((w.alloc (.cells #[.bool a, .slice p n c] 31)).alloc (.cells #[.bool b, .slice q m d] 31)).alloc (.cells #[.bool false, .slice none 0 0] 31)) (w.heap.size + 1) (.bool b) (.slice q m d) 31 := by
    have := Boxed2.new (w.alloc (.cells #[.bool a, .slice p n c] 31)) (.bool b) (.slice q m d) 31
    rw [World.size_alloc] at this
    exact this.alloc _
  have b2 : Boxed2 (((w.alloc (.cells #[.bool a, .slice p n c] 31)).alloc (.cells #[.bool b, .slice q m d] 31)).alloc (.cells #[.bool false, .slice none 0 0] 31)) (w.heap.size + 1 + 1) (.bool false) (.slice none 0 0) 31 := by
    have := Boxed2.new ((w.alloc (.cells #[.bool a, .slice p n c] 31)).alloc (.cells #[.bool b, .slice q m d] 31)) (.bool false) (.slice none 0 0) 31
    rwa [World.size_alloc, World.size_alloc] at this
  have HX := Lib.hid hx
  have HY := Lib.hid hy
  have hown0 := Own.new .i64 3 (((w.alloc (.cells #[.bool a, .slice p n c] 31)).alloc (.cells #[.bool b, .slice q m d] 31)).alloc (.cells #[.bool false, .slice none 0 0] 31)) (n + m)
  have hsz0 : (((w.alloc (.cells #[.bool a, .slice p n c] 31)).alloc (.cells #[.bool b, .slice q m d] 31)).alloc (.cells #[.bool false, .slice none 0 0] 31)).heap.size = w.heap.size + 1 + 1 + 1 := by simp
  have hmk := mkInts (n + m) (by omega) (((w.alloc (.cells #[.bool a, .slice p n c] 31)).alloc (.cells #[.bool b, .slice q m d] 31)).alloc (.cells #[.bool false, .slice none 0 0] 31))
  rw [hsz0] at hown0 hmk
  have ec : ((n + m : Nat) : Int) = (n : Int) + (m : Int) := by omega
  rw [ec] at hmk
  have hbM : Below (w.heap.size + 1 + 1 + 1) (((w.alloc (.cells #[.bool a, .slice p n c] 31)).alloc (.cells #[.bool b, .slice q m d] 31)).alloc (.cells #[.bool false, .slice none 0 0] 31)) ((((w.alloc (.cells #[.bool a, .slice p n c] 31)).alloc (.cells #[.bool b, .slice q m d] 31)).alloc (.cells #[.bool false, .slice none 0 0] 31)).alloc (.cells (Go.madeCells #[.int .i64 0] (n + m)) 3)) := (Below.refl _ _).alloc (by rw [hsz0]; omega) _
  have hszM : w.heap.size + 1 + 1 + 1 < ((((w.alloc (.cells #[.bool a, .slice p n c] 31)).alloc (.cells #[.bool b, .slice q m d] 31)).alloc (.cells #[.bool false, .slice none 0 0] 31)).alloc (.cells (Go.madeCells #[.int .i64 0] (n + m)) 3)).heap.size := by rw [World.size_alloc, hsz0]; omega
  have HB0 := Lib.hid b0
  have HB1 := Lib.hid b1
  have HB2 := Lib.hid b2
  have HBW := Lib.hid hb0
  have HOW0 := Lib.hid hown0
  clear hx hy hown0 ec
  go_enter Tryz.func22, Tryz.ntmps22
  go_wp2_with fail
  generalize hwM : ((((w.alloc (.cells #[.bool a, .slice p n c] 31)).alloc (.cells #[.bool b, .slice q m d] 31)).alloc (.cells #[.bool false, .slice none 0 0] 31)).alloc (.cells (Go.madeCells #[.int .i64 0] (n + m)) 3)) = wM at *
  generalize hwZ : (((w.alloc (.cells #[.bool a, .slice p n c] 31)).alloc (.cells #[.bool b, .slice q m d] 31)).alloc (.cells #[.bool false, .slice none 0 0] 31)) = w1 at *
  clear b0 b1 b2 hb0 hsz0 hmk hwM hwZ
  go_loopg [6] n (fun gk v6 wr => ∃ (i : Nat) (zs : List Nat), i ≤ n ∧ gk = n - i ∧ v6 = .int .i64 (i : Int) ∧ Hid (RMulOut xs ys zs i) ∧ Hid (Own .i64 3 wr (w.heap.size + 1 + 1 + 1) zs) ∧ w.heap.size + 1 + 1 + 1 < wr.heap.size ∧ Below (w.heap.size + 1 + 1 + 1) w1 wr)
  case atStart => exact ⟨0, _, Nat.zero_le _, rfl, rfl, ⟨by simp [HX.out.rd.1, HY.out.rd.1], Dg.replicate (by decide) _, by rw [dv_replicate]; simp [dv], fun t _ => by rw [List.getElem?_replicate]; split <;> rfl⟩, HOW0.out, hszM, hbM⟩
  case round =>
    obtain ⟨i, z0, hi, hgk, rfl, HO, HOWN, hsz, hb⟩ := hrel
    have HGK := Lib.hid hgk
    have bb0 := HB0.out.below hb (by omega)
    have bb1 := HB1.out.below hb (by omega)
    have k0 := bb0.cell0
    have k1 := bb0.cell1
    have k2 := bb1.cell0
    have k3 := bb1.cell1
    clear hgk
    by_cases hlt : i < n
    · have hil : (i : Int) < (n : Int) := by omega
      go_wp2_with fail
      obtain ⟨wo, hwo⟩ : ∃ wo : World, wo = wr := ⟨_, rfl⟩
      go_loopg [7, 8] (m + 1) (fun gk v7 v8 wi => ∃ (j cy : Nat) (zs : List Nat), j ≤ m + 1 ∧ gk = m + 1 - j ∧ v8 = .int .i64 (j : Int) ∧ v7 = .int .i64 (cy : Int) ∧ Hid (RMulIn xs ys z0 zs i j cy) ∧ Hid (Own .i64 3 wi (w.heap.size + 1 + 1 + 1) zs) ∧ w.heap.size + 1 + 1 + 1 < wi.heap.size ∧ Below (w.heap.size + 1 + 1 + 1) w1 wi)
      case atStart => exact ⟨0, 0, z0, by omega, rfl, rfl, rfl, RMulIn.start HO.out, HOWN.out, hsz, hb⟩
      case round =>
        clear bb0 bb1 k0 k1 k2 k3 hwo
        obtain ⟨j, cy, zs, hj, hgk, rfl, rfl, HI, HOWI, hsz2, hb2⟩ := hrel
        have HGK2 := Lib.hid hgk
        clear hgk
        have bb0 := HB0.out.below hb2 (by omega)
        have bb1 := HB1.out.below hb2 (by omega)
        have k0 := bb0.cell0
        have k1 := bb0.cell1
        have k2 := bb1.cell0
        have k3 := bb1.cell1
        have hcy : cy < 10000 := HI.out.2.2.1
        have hrx : Rd .i64 wr p n xs := HX.out.rd.below (HBW.out.trans (hb2.mono (by omega)))
        have hry : Rd .i64 wr q m ys := HY.out.rd.below (HBW.out.trans (hb2.mono (by omega)))
        by_cases hgo : j < m ∨ 0 < cy
        · have hjm : j ≤ m := by
            rcases Nat.lt_or_ge m j with h | h
            · have := HI.out.2.2.2.2.2.2 (by rw [HY.out.rd.1]; exact h); omega
            · exact h
          have hdx : xs[i]?.getD 0 < 10000 := HX.out.cn.1.get (by decide) i
          have hdy : ys[j]?.getD 0 < 10000 := HY.out.cn.1.get (by decide) j
          have hdz : zs[i + j]?.getD 0 < 10000 := HI.out.2.1.get (by decide) _
          have hzl : i + j < zs.length := by rw [HI.out.1, HX.out.rd.1, HY.out.rd.1]; omega
          have HQ := Lib.hid (fun k => digit_same q m d j ys (wr.drewN k) (by omega) (hry.drewN k))
          obtain ⟨bb, off, rfl, hbb, hcell⟩ := hrx.2 i hlt
          have hcz := HOWI.out.cell (i + j) hzl
          have HFR := Lib.hid (HOWI.out.frozen (i + j))
          have hset := fun v => HOWI.out.set (i + j) v
          have hst := HI.out.step (s := cy + zs[i + j]?.getD 0 + xs[i]?.getD 0 * ys[j]?.getD 0) (by rw [HX.out.rd.1]; exact hlt) (by rw [HY.out.rd.1]; exact hjm) HX.out.cn.1 HY.out.cn.1 rfl
          generalize xs[i]?.getD 0 = dx at hdx hst hcell
          generalize ys[j]?.getD 0 = dy at hdy HQ hst
          generalize zs[i + j]?.getD 0 = dz at hdz hst hcz
          have HCI := Lib.hid hcz
          obtain ⟨s1, hs1⟩ : ∃ s1, cy + dz = s1 := ⟨_, rfl⟩
          obtain ⟨m1, hm1⟩ : ∃ m1, dx * dy = m1 := ⟨_, rfl⟩
          have hm1b : m1 ≤ 9999 * 9999 := by rw [← hm1]; exact Nat.mul_le_mul (by omega) (by omega)
          have hmI : (dx : Int) * (dy : Int) = (m1 : Int) := by rw [← hm1]; simp
          obtain ⟨s2, hs2⟩ : ∃ s2, s1 + m1 = s2 := ⟨_, rfl⟩
          obtain ⟨at2, hat⟩ : ∃ at2, i + j = at2 := ⟨_, rfl⟩
          have hw1 : IntKind.i64.wrap ((cy : Int) + (dz : Int)) = (s1 : Int) := by rw [IntWalk.i64_in _ (by omega)]; omega
          have hw2 : IntKind.i64.wrap ((dx : Int) * (dy : Int)) = (m1 : Int) := by rw [hmI, IntWalk.i64_in _ (by omega)]
          have hw3 : IntKind.i64.wrap ((s1 : Int) + (m1 : Int)) = (s2 : Int) := by rw [IntWalk.i64_in _ (by omega)]; omega
          have hw4 : IntKind.i64.wrap ((i : Int) + (j : Int)) = (at2 : Int) := by rw [IntWalk.i64_in _ (by omega)]; omega
          have hij : (i : Int) + (j : Int) = (at2 : Int) := by omega
          have HIJ := Lib.hid hij
          have hatl : at2 < n + m := by omega
          have hs2b : s2 < 200000000 := by omega
          rw [hs1, hm1, hs2, hat] at hst
          rw [hat] at hcz hset HFR HCI
          have HD := Lib.hid (show (s2 : Int) / 10000 = ((s2 / 10000 : Nat) : Int) by omega)
          have HM := Lib.hid (show (s2 : Int) % 10000 = ((s2 % 10000 : Nat) : Int) by omega)
          have HST := Lib.hid hst
          generalize s2 / 10000 = q2 at HD HST
          have HOW := Lib.hid (hset (s2 % 10000))
          generalize s2 % 10000 = r2 at HM HST HOW
          clear hs1 hm1 hs2 hat hst hset hmI hij
          have hways : (j < m) ∨ (¬ j < m ∧ (0 : Int) < (cy : Int)) := by omega
          clear hgo
          rcases hways with h1 | ⟨h1, h2⟩
          · go_wp2_with fail
            go_quiet ((go_at_call 76; (with_reducible exact Calls.quiet_of_same (HQ.out _))))
            clear hw1 hw2 hw3 hw4
            have hdiv := HD.out
            have hmod := HM.out
            have hij := HIJ.out
            have hci := HCI.out
            have hfr := HFR.out
            go_wp2_with fail
            go_roundg (m + 1 - (j + 1))
            case measure => rw [HGK2.out]; omega
            case rel => exact ⟨j + 1, q2, _, by omega, rfl, by go_num, rfl, HST.out, HOW.out, by simpa using hsz2, (hb2.trans (drewN_below _ _ _)).setCell (by simp <;> omega) _⟩
          · go_wp2_with fail
            go_quiet ((go_at_call 76; (with_reducible exact Calls.quiet_of_same (HQ.out _))))
            clear hw1 hw2 hw3 hw4
            have hdiv := HD.out
            have hmod := HM.out
            have hij := HIJ.out
            have hci := HCI.out
            have hfr := HFR.out
            go_wp2_with fail
            go_roundg (m + 1 - (j + 1))
            case measure => rw [HGK2.out]; omega
            case rel => exact ⟨j + 1, q2, _, by omega, rfl, by go_num, rfl, HST.out, HOW.out, by simpa using hsz2, (hb2.trans (drewN_below _ _ _)).setCell (by simp <;> omega) _⟩
        · have h1 : ¬ j < m := fun h => hgo (.inl h)
          obtain rfl : cy = 0 := by
            rcases Nat.eq_zero_or_pos cy with h | h
            · exact h
            · exact absurd (.inr h) hgo
          have HF := Lib.hid (HI.out.finish HO.out (by rw [HY.out.rd.1]; omega))
          clear hgo
          go_wp2_with fail
          go_roundg (n - (i + 1))
          case measure => rw [HGK.out]; omega
          case rel => exact ⟨i + 1, zs, by omega, rfl, by go_num, HF.out, HOWI.out, hsz2, hb2⟩
    · obtain rfl : i = n := by omega
      have hbb2 := HB2.out.below hb (by omega)
      have hbw := HBW.out.trans (hb.mono (by omega))
      have hrd : Rd .i64 wr (some ⟨w.heap.size + 1 + 1 + 1, 0, none⟩) (i + m) z0 := HOWN.out.rd (by rw [HO.out.1, HX.out.rd.1, HY.out.rd.1])
      have HDG := Lib.hid HO.out.2.1
      have HV : Hid (dv BR z0 = dv BR xs * dv BR ys) := by
        have := HO.out.2.2.1
        rw [List.take_of_length_le (by rw [HX.out.rd.1]; exact Nat.le_refl _)] at this
        exact this
      have hbne : ∀ (r : Bool), r = (a != b) → True := fun _ _ => trivial
      go_wp2_with (go_at_call 72; refine (rnumber_any _ _ _ _ z0 _ (by unfold maxLen; omega) (Nat.le_refl _) hrd HDG.out).mono ?_; rintro e w2 ⟨neg2, p2, n2, c2, xs2, rfl, hx2, hn2, hb2⟩; have b22 := hbb2.below hb2 hbb2.lt; have c20 := b22.cell0; have c21 := b22.cell1; have q20 := b22.frozen (i := 0); have q21 := b22.frozen (i := 1))
      have b3 := b22.set (.bool neg2) (.slice p2 n2 c2)
      have z0' := b3.cell0
      have z1' := b3.cell1
      refine bodyPost_ret (v := .agg #[.bool neg2, .slice p2 n2 c2]) (by simp [results, Tryz.results22, go_sem, z0', z1']) rfl ⟨neg2, p2, n2, c2, xs2, rfl, { rd := (hx2.rd.boxI b22 _).boxI (b22.set0 _) _, cap := hx2.cap, cn := hx2.cn, pos := hx2.pos, val := ?_ }, hn2, ((hbw.trans (hb2.mono hbw.size)).setCell (by simp <;> omega) _).setCell (by simp <;> omega) _⟩
      rw [← hx2.val, HV.out, HX.out.val, HY.out.val]
      cases a <;> cases b <;> simp [sv, Int.neg_mul, Int.mul_neg]

end Go.Proofs.YtimcbmgmngkagaaGreatDoor

namespace Go.Proofs.YtimcbmgmngkagaaGreatDoor
open Go.RowKit

def apiS (ok : Bool) (z : Int) : List UInt8 := if ok then outS z else []
def apiE (ok : Bool) (z : Int) : Int := if ok then outE z else 6

/-- What a call hands back: a string and an error. -/
def ApiIs (w : World) (ok : Bool) (z : Int) (e : Ending) (w' : World) : Prop := e = .returned (.tuple #[.string ⟨(apiS ok z).toArray⟩, .int .i64 (apiE ok z)]) ∧ Below w.heap.size w w'

theorem pair_boxes {W : World} (u0 u1 u2 u3 : Value) (t : TypeId) : Boxed2 ((W.alloc (.cells #[u0, u1] t)).alloc (.cells #[u2, u3] t)) W.heap.size u0 u1 t ∧ Boxed2 ((W.alloc (.cells #[u0, u1] t)).alloc (.cells #[u2, u3] t)) (W.heap.size + 1) u2 u3 t :=
  ⟨(Boxed2.new W _ _ _).alloc _, by have := Boxed2.new (W.alloc (.cells #[u0, u1] t)) u2 u3 t; simpa using this⟩

theorem Nums.two {W : World} {a b : Bool} {p q : Option Addr} {n c m d : Nat} {xs ys : List Nat} {x y : Int} {L : Nat} (hx : NumIs W a p n c xs x L) (hy : NumIs W b q m d ys y L) (t : TypeId) :
    Nums (W.alloc (.cells #[.bool a, .slice p n c, .bool b, .slice q m d] t)) (some ⟨W.heap.size, 0, none⟩) [x, y] L := by
  have hb : Below W.heap.size W (W.alloc (.cells #[.bool a, .slice p n c, .bool b, .slice q m d] t)) := (Below.refl _ _).alloc (Nat.le_refl _) _
  intro i z hz
  match i, hz with
  | 0, hz => cases hz; exact ⟨W.heap.size, 0, a, p, n, c, xs, rfl, by simp, by simp, by simp, hx.below hb⟩
  | 1, hz => cases hz; exact ⟨W.heap.size, 0, b, q, m, d, ys, rfl, by simp, by simp, by simp, hy.below hb⟩
  | i + 2, hz => simp at hz

theorem sumZ_two (x y : Int) : sumZ [x, y] = x + y := by simp [sumZ]

theorem sum_two {W : World} {a b : Bool} {p q : Option Addr} {n c m d : Nat} {xs ys : List Nat} {x y : Int} {L : Nat} (hx : NumIs W a p n c xs x L) (hy : NumIs W b q m d ys y L) (hL : L ≤ 100000000) (t : TypeId) (k B : Nat) (hB : W.heap.size = B) :
    Calls Tryz.prog 159 #[.slice (some ⟨B, 0, none⟩) 2 k] (W.alloc (.cells #[.bool a, .slice p n c, .bool b, .slice q m d] t)) (NumV (W.alloc (.cells #[.bool a, .slice p n c, .bool b, .slice q m d] t)) (x + y) (L + 2)) := by
  subst hB
  have h := sum_any (some ⟨W.heap.size, 0, none⟩) 2 k [x, y] L _ rfl (by omega) hL (Nums.two hx hy t)
  rw [sumZ_two] at h
  exact h

set_option maxHeartbeats 1000000 in
theorem mul_ok (s t : ByteArray) (w : World) (hs : s.size ≤ maxLen) (ht : t.size ≤ maxLen) (h1 : numB s.data.toList = true) (h2 : numB t.data.toList = true) (htab : Tab w) :
    Calls Tryz.prog 77 #[.string s, .string t] w (ApiIs w true (strV s.data.toList * strV t.data.toList)) := by
  go_enter Tryz.func77, Tryz.ntmps77
  go_wp2_with (first
    | (go_at_call 66; refine (pair_ok s t _ hs ht h1 h2).mono ?_; rintro e w1 ⟨a, p, n, c, xs, b, q, m, d, ys, rfl, hx, hy, hb1⟩; have hbA : Below w1.heap.size w1 ((w1.alloc (.cells #[.bool a, .slice p n c] 78)).alloc (.cells #[.bool b, .slice q m d] 78)) := (((Below.refl _ _).alloc (Nat.le_refl _) _).alloc (by simp) _); have hbW := hb1.trans (hbA.mono hb1.size); have hxA := hx.below hbA; have hyA := hy.below hbA)
    | (go_at_call 118; refine (product_num hxA hyA (by omega) (by omega)).mono ?_; rintro e w2 ⟨neg2, p2, n2, d2, xs2, rfl, hx2, hb2⟩; have hbX := hbW.trans (hb2.mono hbW.size))
    | (go_at_call 69; refine (written_any _ _ _ _ _ _ _ _ hx2 (by omega) (htab.below hbX)).mono ?_; rintro e w3 ⟨rfl, hb3⟩))
  go_ret2
  exact ⟨rfl, hbX.trans (hb3.mono hbX.size)⟩

set_option maxHeartbeats 1000000 in
theorem mul_bad (s t : ByteArray) (w : World) (hs : s.size ≤ maxLen) (ht : t.size ≤ maxLen) (h : (numB s.data.toList && numB t.data.toList) = false) (z : Int) :
    Calls Tryz.prog 77 #[.string s, .string t] w (ApiIs w false z) := by
  go_enter Tryz.func77, Tryz.ntmps77
  go_wp2_with (go_at_call 66; refine (pair_bad s t _ hs ht h).mono ?_; rintro e w1 ⟨rfl, hb1⟩)
  go_ret2
  exact ⟨rfl, (hb1.alloc hb1.size _).alloc (by have := hb1.size; simp; omega) _⟩

theorem mul_any (s t : ByteArray) (w : World) (hs : s.size ≤ maxLen) (ht : t.size ≤ maxLen) (htab : Tab w) :
    Calls Tryz.prog 77 #[.string s, .string t] w (ApiIs w (numB s.data.toList && numB t.data.toList) (strV s.data.toList * strV t.data.toList)) := by
  cases h : (numB s.data.toList && numB t.data.toList)
  · exact mul_bad s t w hs ht h _
  · simp only [Bool.and_eq_true] at h
    exact mul_ok s t w hs ht h.1 h.2 htab

end Go.Proofs.YtimcbmgmngkagaaGreatDoor
