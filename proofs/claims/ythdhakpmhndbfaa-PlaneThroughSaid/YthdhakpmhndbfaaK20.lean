/-
  The reference of planes: a right point of any numbers; The laws of planes: what they share; The laws of planes: a few plain answers; PlaneShifts, its walk.
-/
import Derived.Deep.CutBlock
import Derived.Test.YthdhakpmhndbfaaK1
import Derived.Test.YthdhakpmhndbfaaK2
import Derived.Test.YthdhakpmhndbfaaK3
import Derived.Test.YthdhakpmhndbfaaK4
import Derived.Test.YthdhakpmhndbfaaK5
import Derived.Test.YthdhakpmhndbfaaK6
import Derived.Test.YthdhakpmhndbfaaK7
import Derived.Test.YthdhakpmhndbfaaK8
import Derived.Test.YthdhakpmhndbfaaK9
import Derived.Test.YthdhakpmhndbfaaK10
import Derived.Test.YthdhakpmhndbfaaK11
import Derived.Test.YthdhakpmhndbfaaK12
import Derived.Test.YthdhakpmhndbfaaK13
import Derived.Test.YthdhakpmhndbfaaK14
import Derived.Test.YthdhakpmhndbfaaK15
import Derived.Test.YthdhakpmhndbfaaK16
import Derived.Test.YthdhakpmhndbfaaK17
import Derived.Test.YthdhakpmhndbfaaK18
namespace Go.Proofs.Ythdhakpmhndbfaa
open Go.RowKit Go.Shelf
attribute [local go_sem] Oper.semAt_some

def placeCA (x : V4) : Int := x.a % 18446744073709551616 % 41 - 20
def placeCB (x : V4) : Int := x.b % 18446744073709551616 % 41 - 20
def placeCC (x : V4) : Int := x.c % 18446744073709551616 % 41 - 20
def placeCD (x : V4) : Int := 1 + x.d % 18446744073709551616 % 4
def placeV (x : V4) : V4 := ⟨low4 (placeCA x) (placeCB x) (placeCC x) (placeCD x) (placeCA x), low4 (placeCA x) (placeCB x) (placeCC x) (placeCD x) (placeCB x), low4 (placeCA x) (placeCB x) (placeCC x) (placeCD x) (placeCC x), low4 (placeCA x) (placeCB x) (placeCC x) (placeCD x) (placeCD x)⟩

theorem g4_pos' {a b c d : Int} (h : 1 ≤ d) : 0 < g4 a b c d := by
  rcases Nat.eq_zero_or_pos (g4 a b c d) with h0 | h0
  · exfalso
    have := g4_dvd a b c d
    rw [h0] at this
    have := Int.zero_dvd.1 this.2.2.2
    omega
  · exact h0
theorem low4_g4' {a b c d : Int} (hp : 0 < g4 a b c d) : g4 (low4 a b c d a) (low4 a b c d b) (low4 a b c d c) (low4 a b c d d) = 1 := by
  have hm := low4_mul a b c d
  have hs := g4_scale (g4 a b c d) (low4 a b c d a) (low4 a b c d b) (low4 a b c d c) (low4 a b c d d)
  rw [Int.mul_comm, hm.1, Int.mul_comm, hm.2.1, Int.mul_comm, hm.2.2.1, Int.mul_comm, hm.2.2.2] at hs
  exact Nat.eq_of_mul_eq_mul_left hp (by omega)
theorem low4_le' {a b c d x : Int} (hp : 0 < g4 a b c d) (hx : low4 a b c d x * g4 a b c d = x) : (low4 a b c d x).natAbs ≤ x.natAbs := by
  have e : (low4 a b c d x).natAbs * g4 a b c d = x.natAbs := by rw [← congrArg Int.natAbs hx, Int.natAbs_mul, Int.natAbs_natCast]
  have := Nat.le_mul_of_pos_right (low4 a b c d x).natAbs hp
  omega
theorem soundP_small {a b c d : Int} (hA : a.natAbs ≤ 20) (hB : b.natAbs ≤ 20) (hC : c.natAbs ≤ 20) (hd1 : 1 ≤ d) (hd2 : d ≤ 4) : SoundP (low4 a b c d a) (low4 a b c d b) (low4 a b c d c) (low4 a b c d d) := by
  have hp := g4_pos' (a := a) (b := b) (c := c) hd1
  have hm := low4_mul a b c d
  have l0 := low4_le' hp hm.1
  have l1 := low4_le' hp hm.2.1
  have l2 := low4_le' hp hm.2.2.1
  have l3 := low4_le' hp hm.2.2.2
  have hg := low4_g4' hp
  have h3 := hm.2.2.2
  have hdp : 0 < low4 a b c d d := by
    rcases Int.lt_or_le 0 (low4 a b c d d) with h | h
    · exact h
    · exfalso
      have : low4 a b c d d * (g4 a b c d : Int) ≤ 0 := Int.mul_nonpos_of_nonpos_of_nonneg h (by omega)
      omega
  unfold SoundP
  exact ⟨by omega, by omega, by omega, by omega, by omega, hg⟩
theorem place_sound (x : V4) : SoundQ (placeV x) := by
  have hA : (placeCA x).natAbs ≤ 20 := by unfold placeCA; omega
  have hB : (placeCB x).natAbs ≤ 20 := by unfold placeCB; omega
  have hC : (placeCC x).natAbs ≤ 20 := by unfold placeCC; omega
  have hD : 1 ≤ placeCD x ∧ placeCD x ≤ 4 := by unfold placeCD; omega
  exact soundP_small hA hB hC hD.1 hD.2

set_option maxRecDepth 100000 in
set_option maxHeartbeats 8000000 in
theorem place_any (x : V4) (w : World) (hx : InV x) :
    Calls Try.prog 24 #[.agg #[.int .i64 x.a, .int .i64 x.b, .int .i64 x.c, .int .i64 x.d]] w fun e w' => e = .returned (.agg #[.int .i64 (placeV x).a, .int .i64 (placeV x).b, .int .i64 (placeV x).c, .int .i64 (placeV x).d]) ∧ Below w.heap.size w w' := by
  unfold placeV
  obtain ⟨ua, hua⟩ : ∃ u, x.a % 18446744073709551616 = u := ⟨_, rfl⟩
  have na : 0 ≤ ua := by omega
  obtain ⟨sa, hsa⟩ : ∃ s, ua % 41 = s := ⟨_, rfl⟩
  have ba : 0 ≤ sa ∧ sa < 41 := by omega
  have ea1 : IntKind.u64.wrap x.a = ua := by rw [IntKind.wrap_u64, hua]
  have ea2 : ua.tmod 41 = sa := by rw [Int.tmod_eq_emod_of_nonneg na]; exact hsa
  have ea3 : IntKind.u64.wrap sa = sa := by rw [IntKind.wrap_u64]; omega
  have ea4 : wrap64 sa = sa := by unfold wrap64; omega
  obtain ⟨a, ha⟩ : ∃ v, sa - 20 = v := ⟨_, rfl⟩
  have ea5 : wrap64 a = a := by unfold wrap64; omega
  have pa : placeCA x = a := by unfold placeCA; rw [hua, hsa, ha]
  obtain ⟨ub, hub⟩ : ∃ u, x.b % 18446744073709551616 = u := ⟨_, rfl⟩
  have nb : 0 ≤ ub := by omega
  obtain ⟨sb, hsb⟩ : ∃ s, ub % 41 = s := ⟨_, rfl⟩
  have bb : 0 ≤ sb ∧ sb < 41 := by omega
  have eb1 : IntKind.u64.wrap x.b = ub := by rw [IntKind.wrap_u64, hub]
  have eb2 : ub.tmod 41 = sb := by rw [Int.tmod_eq_emod_of_nonneg nb]; exact hsb
  have eb3 : IntKind.u64.wrap sb = sb := by rw [IntKind.wrap_u64]; omega
  have eb4 : wrap64 sb = sb := by unfold wrap64; omega
  obtain ⟨b, hb⟩ : ∃ v, sb - 20 = v := ⟨_, rfl⟩
  have eb5 : wrap64 b = b := by unfold wrap64; omega
  have pb : placeCB x = b := by unfold placeCB; rw [hub, hsb, hb]
  obtain ⟨uc, huc⟩ : ∃ u, x.c % 18446744073709551616 = u := ⟨_, rfl⟩
  have nc : 0 ≤ uc := by omega
  obtain ⟨sc, hsc⟩ : ∃ s, uc % 41 = s := ⟨_, rfl⟩
  have bc : 0 ≤ sc ∧ sc < 41 := by omega
  have ec1 : IntKind.u64.wrap x.c = uc := by rw [IntKind.wrap_u64, huc]
  have ec2 : uc.tmod 41 = sc := by rw [Int.tmod_eq_emod_of_nonneg nc]; exact hsc
  have ec3 : IntKind.u64.wrap sc = sc := by rw [IntKind.wrap_u64]; omega
  have ec4 : wrap64 sc = sc := by unfold wrap64; omega
  obtain ⟨c, hc⟩ : ∃ v, sc - 20 = v := ⟨_, rfl⟩
  have ec5 : wrap64 c = c := by unfold wrap64; omega
  have pc : placeCC x = c := by unfold placeCC; rw [huc, hsc, hc]
  obtain ⟨ud, hud⟩ : ∃ u, x.d % 18446744073709551616 = u := ⟨_, rfl⟩
  have nd : 0 ≤ ud := by omega
  obtain ⟨sd, hsd⟩ : ∃ s, ud % 4 = s := ⟨_, rfl⟩
  have bd : 0 ≤ sd ∧ sd < 4 := by omega
  have ed1 : IntKind.u64.wrap x.d = ud := by rw [IntKind.wrap_u64, hud]
  have ed2 : ud.tmod 4 = sd := by rw [Int.tmod_eq_emod_of_nonneg nd]; exact hsd
  have ed3 : IntKind.u64.wrap sd = sd := by rw [IntKind.wrap_u64]; omega
  have ed4 : wrap64 sd = sd := by unfold wrap64; omega
  obtain ⟨d, hd⟩ : ∃ v, 1 + sd = v := ⟨_, rfl⟩
  have ed5 : wrap64 d = d := by unfold wrap64; omega
  have pd : placeCD x = d := by unfold placeCD; rw [hud, hsd, hd]
  rw [pa, pb, pc, pd]
  have hda : a.natAbs ≤ 20 := by omega
  have hdb : b.natAbs ≤ 20 := by omega
  have hdc : c.natAbs ≤ 20 := by omega
  have hdd : 1 ≤ d ∧ d ≤ 4 := by omega
  clear pa pb pc pd hua hub huc hud hsa hsb hsc hsd
  have hp := g4_pos' (a := a) (b := b) (c := c) hdd.1
  have hdv := g4_dvd a b c d
  have t0 := tdiv_low a b c d a hdv.1
  have t1 := tdiv_low a b c d b hdv.2.1
  have t2 := tdiv_low a b c d c hdv.2.2.1
  have t3 := tdiv_low a b c d d hdv.2.2.2
  have hm := low4_mul a b c d
  have l0 := low4_le' hp hm.1
  have l1 := low4_le' hp hm.2.1
  have l2 := low4_le' hp hm.2.2.1
  have l3 := low4_le' hp hm.2.2.2
  obtain ⟨g, hg⟩ : ∃ g, g4 a b c d = g := ⟨_, rfl⟩
  rw [hg] at t0 t1 t2 t3 hp
  obtain ⟨r0, hr0⟩ : ∃ r, low4 a b c d a = r := ⟨_, rfl⟩
  obtain ⟨r1, hr1⟩ : ∃ r, low4 a b c d b = r := ⟨_, rfl⟩
  obtain ⟨r2, hr2⟩ : ∃ r, low4 a b c d c = r := ⟨_, rfl⟩
  obtain ⟨r3, hr3⟩ : ∃ r, low4 a b c d d = r := ⟨_, rfl⟩
  rw [hr0] at t0 l0 ⊢
  rw [hr1] at t1 l1 ⊢
  rw [hr2] at t2 l2 ⊢
  rw [hr3] at t3 l3 ⊢
  have y0 : wrap64 r0 = r0 := by unfold wrap64; omega
  have y1 : wrap64 r1 = r1 := by unfold wrap64; omega
  have y2 : wrap64 r2 = r2 := by unfold wrap64; omega
  have y3 : wrap64 r3 = r3 := by unfold wrap64; omega
  have hsz : ∀ {v : Int}, v.natAbs ≤ 20 → sizeZ v = (v.natAbs : Int) := fun h => by unfold sizeZ; rw [if_neg (by omega)]
  have q1 := fun W => gcd3_any a b W (by unfold InI64; omega) (by unfold InI64; omega)
  have q2 := fun W => gcd3_any c d W (by unfold InI64; omega) (by unfold InI64; omega)
  rw [show Int.gcd (sizeZ a) (sizeZ b) = Int.gcd a b by rw [hsz hda, hsz hdb]; rfl] at q1
  rw [show Int.gcd (sizeZ c) (sizeZ d) = Int.gcd c d by rw [hsz hdc, hsz (by omega)]; rfl] at q2
  have g1 := gcd_le_of hda hdb
  have g2 := gcd_le_of hdc (show d.natAbs ≤ 20 by omega)
  have hg3 : Nat.gcd (Int.gcd a b) (Int.gcd c d) = g := hg
  obtain ⟨m, hm'⟩ : ∃ m, Int.gcd a b = m := ⟨_, rfl⟩
  obtain ⟨n, hn⟩ : ∃ n, Int.gcd c d = n := ⟨_, rfl⟩
  rw [hm'] at q1 g1 hg3
  rw [hn] at q2 g2 hg3
  have q3 := fun W => gcd3_any (m : Int) (n : Int) W (by unfold InI64; omega) (by unfold InI64; omega)
  rw [sizeZ_of_nat (by omega), sizeZ_of_nat (by omega), show Int.gcd (m : Int) (n : Int) = g from hg3] at q3
  have Q1 := Lib.hid q1
  have Q2 := Lib.hid q2
  have Q3 := Lib.hid q3
  have hg0 : ¬ (g : Int) = 0 := by omega
  clear q1 q2 q3 hsz hg3 hm' hn hdv hm hg hr0 hr1 hr2 hr3 g1 g2 l0 l1 l2 l3 hda hdb hdc hdd hp hx ba bb bc bd na nb nc nd
  obtain ⟨w1, hw1⟩ : ∃ w1, ((w.alloc (.cells #[.int .i64 x.a, .int .i64 x.b, .int .i64 x.c, .int .i64 x.d] 22)).alloc (.cells #[.int .i64 0, .int .i64 0, .int .i64 0, .int .i64 0] 37)) = w1 := ⟨_, rfl⟩
  have hb1 : Below w.heap.size w w1 := by rw [← hw1]; exact bw2 w _ _
  have k0 : Blk w1 w.heap.size #[.int .i64 x.a, .int .i64 x.b, .int .i64 x.c, .int .i64 x.d] 22 := by rw [← hw1]; exact (Blk.new w _ _).alloc _
  have kR : Blk w1 (w.heap.size + 1) #[.int .i64 0, .int .i64 0, .int .i64 0, .int .i64 0] 37 := by rw [← hw1]; exact Blk.new' _ _ _ (by simp)
  have c0 := k0.cell (i := 0) rfl
  have c1 := k0.cell (i := 1) rfl
  have c2 := k0.cell (i := 2) rfl
  have c3 := k0.cell (i := 3) rfl
  obtain ⟨w7, hw7⟩ : ∃ w7, w1.alloc (.cells #[.int .i64 0, .int .i64 0, .int .i64 0, .int .i64 0] 37) = w7 := ⟨_, rfl⟩
  have kQ : Blk w7 w1.heap.size #[.int .i64 0, .int .i64 0, .int .i64 0, .int .i64 0] 37 := by rw [← hw7]; exact Blk.new _ _ _
  have kR : Blk w7 (w.heap.size + 1) #[.int .i64 0, .int .i64 0, .int .i64 0, .int .i64 0] 37 := by rw [← hw7]; exact kR.alloc _
  have hb7 : Below w.heap.size w w7 := by rw [← hw7]; exact hb1.alloc hb1.size _
  have hlt : w.heap.size + 1 < w1.heap.size := by rw [← hw1]; simp
  have d0 := kQ.cell (i := 0) rfl
  have d1 := kQ.cell (i := 1) rfl
  have d2 := kQ.cell (i := 2) rfl
  have d3 := kQ.cell (i := 3) rfl
  have f0 := kQ.frozen 0
  have f1 := kQ.frozen 1
  have f2 := kQ.frozen 2
  have f3 := kQ.frozen 3
  obtain ⟨w8, hw8⟩ : ∃ w8, ((((w7.setCell ⟨w1.heap.size, 0, none⟩ (.int .i64 a)).setCell ⟨w1.heap.size, 1, none⟩ (.int .i64 b)).setCell ⟨w1.heap.size, 2, none⟩ (.int .i64 c)).setCell ⟨w1.heap.size, 3, none⟩ (.int .i64 d)) = w8 := ⟨_, rfl⟩
  have kQ8 : Blk w8 w1.heap.size #[.int .i64 a, .int .i64 b, .int .i64 c, .int .i64 d] 37 := by rw [← hw8]; exact Blk.put4 kQ _ _ _ _
  have kR8 : Blk w8 (w.heap.size + 1) #[.int .i64 0, .int .i64 0, .int .i64 0, .int .i64 0] 37 := by rw [← hw8]; exact (((kR.other (C := w1.heap.size) 0 _ (by omega)).other (C := w1.heap.size) 1 _ (by omega)).other (C := w1.heap.size) 2 _ (by omega)).other (C := w1.heap.size) 3 _ (by omega)
  have hb8 : Below w.heap.size w w8 := by rw [← hw8]; exact (((hb7.setCell (by simp only; omega) _).setCell (by simp only; omega) _).setCell (by simp only; omega) _).setCell (by simp only; omega) _
  have s0 := kQ8.cell (i := 0) rfl
  have s1 := kQ8.cell (i := 1) rfl
  have s2 := kQ8.cell (i := 2) rfl
  have s3 := kQ8.cell (i := 3) rfl
  go_enter Try.func24, Try.ntmps24
  go_upto_region 2 with fail
  go_quiet (first | (with_reducible exact Calls.quiet_of (Q1.out _)) | (with_reducible exact Calls.quiet_of (Q2.out _)) | (with_reducible exact Calls.quiet_of (Q3.out _)))
  go_upto_region 3 with fail
  have hb89 := drewN_below w8.heap.size w8 nq
  obtain ⟨w9, hw9⟩ : ∃ w9, w8.drewN nq = w9 := ⟨_, rfl⟩
  rw [hw9] at hb89 ⊢
  have kQ := kQ8.kept hb89
  have kR := kR8.kept hb89
  have hb9 := hb8.trans (hb89.mono hb8.size)
  clear hw9 hb89 hb8 hb7 hw7 hw8 d0 d1 d2 d3 f0 f1 f2 f3 s0 s1 s2 s3
  refine wp_region_pure 17 (fun ix => match ix with | 0 => .pointer (some ⟨w1.heap.size, 0, none⟩) | 1 => .int .i64 a | 2 => .int .i64 (g : Int) | 3 => .int .i64 r0 | 4 => .pointer (some ⟨w1.heap.size, 1, none⟩) | 5 => .int .i64 b | 6 => .int .i64 (g : Int) | 7 => .int .i64 r1 | 8 => .pointer (some ⟨w1.heap.size, 2, none⟩) | 9 => .int .i64 c | 10 => .int .i64 (g : Int) | 11 => .int .i64 r2 | 12 => .pointer (some ⟨w1.heap.size, 3, none⟩) | 13 => .int .i64 d | 14 => .int .i64 (g : Int) | 15 => .int .i64 r3 | _ => .agg #[.int .i64 r0, .int .i64 r1, .int .i64 r2, .int .i64 r3]) (by kernel_rfl) (by kernel_rfl) (by kernel_rfl) ?_ ?_ ?_
  · decide
  · rintro ix hx f ww hS hd
    have kQ := kQ.kept hS
    have m0_ := kQ.cell (i := 0) rfl
    have m1_ := kQ.cell (i := 1) rfl
    have m2_ := kQ.cell (i := 2) rfl
    have m3_ := kQ.cell (i := 3) rfl
    rcases ix with _ | _ | _ | _ | _ | _ | _ | _ | _ | _ | _ | _ | _ | _ | _ | _ | _ | ix
    · refine wpOp_list rfl ?_
      simp only [tmOf, putAll, List.map_cons, List.map_nil, List.setIfInBounds_toArray, List.set_cons_zero, List.set_cons_succ]
      go_wp2
      simp [upd, Below.refl]
    · have g0 : f 0 = .pointer (some ⟨w1.heap.size, 0, none⟩) := hd 0 (by kernel_rfl)
      refine wpOp_list rfl ?_
      simp only [tmOf, putAll, List.map_cons, List.map_nil, List.setIfInBounds_toArray, List.set_cons_zero, List.set_cons_succ]
      go_wp2
      simp [upd, g0, Below.refl]
    · refine wpOp_list rfl ?_
      simp only [tmOf, putAll, List.map_cons, List.map_nil, List.setIfInBounds_toArray, List.set_cons_zero, List.set_cons_succ]
      go_wp2
      simp [upd, Below.refl]
    · have g1 : f 1 = .int .i64 a := hd 1 (by kernel_rfl)
      have g2 : f 2 = .int .i64 (g : Int) := hd 2 (by kernel_rfl)
      refine wpOp_list rfl ?_
      simp only [tmOf, putAll, List.map_cons, List.map_nil, List.setIfInBounds_toArray, List.set_cons_zero, List.set_cons_succ]
      go_wp2
      simp [upd, g1, g2, Below.refl]
    · refine wpOp_list rfl ?_
      simp only [tmOf, putAll, List.map_cons, List.map_nil, List.setIfInBounds_toArray, List.set_cons_zero, List.set_cons_succ]
      go_wp2
      simp [upd, Below.refl]
    · have g4 : f 4 = .pointer (some ⟨w1.heap.size, 1, none⟩) := hd 4 (by kernel_rfl)
      refine wpOp_list rfl ?_
      simp only [tmOf, putAll, List.map_cons, List.map_nil, List.setIfInBounds_toArray, List.set_cons_zero, List.set_cons_succ]
      go_wp2
      simp [upd, g4, Below.refl]
    · refine wpOp_list rfl ?_
      simp only [tmOf, putAll, List.map_cons, List.map_nil, List.setIfInBounds_toArray, List.set_cons_zero, List.set_cons_succ]
      go_wp2
      simp [upd, Below.refl]
    · have g5 : f 5 = .int .i64 b := hd 5 (by kernel_rfl)
      have g6 : f 6 = .int .i64 (g : Int) := hd 6 (by kernel_rfl)
      refine wpOp_list rfl ?_
      simp only [tmOf, putAll, List.map_cons, List.map_nil, List.setIfInBounds_toArray, List.set_cons_zero, List.set_cons_succ]
      go_wp2
      simp [upd, g5, g6, Below.refl]
    · refine wpOp_list rfl ?_
      simp only [tmOf, putAll, List.map_cons, List.map_nil, List.setIfInBounds_toArray, List.set_cons_zero, List.set_cons_succ]
      go_wp2
      simp [upd, Below.refl]
    · have g8 : f 8 = .pointer (some ⟨w1.heap.size, 2, none⟩) := hd 8 (by kernel_rfl)
      refine wpOp_list rfl ?_
      simp only [tmOf, putAll, List.map_cons, List.map_nil, List.setIfInBounds_toArray, List.set_cons_zero, List.set_cons_succ]
      go_wp2
      simp [upd, g8, Below.refl]
    · refine wpOp_list rfl ?_
      simp only [tmOf, putAll, List.map_cons, List.map_nil, List.setIfInBounds_toArray, List.set_cons_zero, List.set_cons_succ]
      go_wp2
      simp [upd, Below.refl]
    · have g9 : f 9 = .int .i64 c := hd 9 (by kernel_rfl)
      have g10 : f 10 = .int .i64 (g : Int) := hd 10 (by kernel_rfl)
      refine wpOp_list rfl ?_
      simp only [tmOf, putAll, List.map_cons, List.map_nil, List.setIfInBounds_toArray, List.set_cons_zero, List.set_cons_succ]
      go_wp2
      simp [upd, g9, g10, Below.refl]
    · refine wpOp_list rfl ?_
      simp only [tmOf, putAll, List.map_cons, List.map_nil, List.setIfInBounds_toArray, List.set_cons_zero, List.set_cons_succ]
      go_wp2
      simp [upd, Below.refl]
    · have g12 : f 12 = .pointer (some ⟨w1.heap.size, 3, none⟩) := hd 12 (by kernel_rfl)
      refine wpOp_list rfl ?_
      simp only [tmOf, putAll, List.map_cons, List.map_nil, List.setIfInBounds_toArray, List.set_cons_zero, List.set_cons_succ]
      go_wp2
      simp [upd, g12, Below.refl]
    · refine wpOp_list rfl ?_
      simp only [tmOf, putAll, List.map_cons, List.map_nil, List.setIfInBounds_toArray, List.set_cons_zero, List.set_cons_succ]
      go_wp2
      simp [upd, Below.refl]
    · have g13 : f 13 = .int .i64 d := hd 13 (by kernel_rfl)
      have g14 : f 14 = .int .i64 (g : Int) := hd 14 (by kernel_rfl)
      refine wpOp_list rfl ?_
      simp only [tmOf, putAll, List.map_cons, List.map_nil, List.setIfInBounds_toArray, List.set_cons_zero, List.set_cons_succ]
      go_wp2
      simp [upd, g13, g14, Below.refl]
    · have g3 : f 3 = .int .i64 r0 := hd 3 (by kernel_rfl)
      have g7 : f 7 = .int .i64 r1 := hd 7 (by kernel_rfl)
      have g11 : f 11 = .int .i64 r2 := hd 11 (by kernel_rfl)
      have g15 : f 15 = .int .i64 r3 := hd 15 (by kernel_rfl)
      refine wpOp_list rfl ?_
      simp only [tmOf, putAll, List.map_cons, List.map_nil, List.setIfInBounds_toArray, List.set_cons_zero, List.set_cons_succ]
      go_wp2
      simp [upd, g3, g7, g11, g15, Below.refl]
    · omega
  · rintro f ww hS hd
    have KR := kR.kept hS
    have d0 := KR.cell (i := 0) rfl
    have d1 := KR.cell (i := 1) rfl
    have d2 := KR.cell (i := 2) rfl
    have d3 := KR.cell (i := 3) rfl
    have q0 := KR.frozen 0
    have q1 := KR.frozen 1
    have q2 := KR.frozen 2
    have q3 := KR.frozen 3
    have g16 : f 16 = .agg #[.int .i64 r0, .int .i64 r1, .int .i64 r2, .int .i64 r3] := hd 16 (by decide)
    simp only [seqW, tmOf, putAll, List.map_cons, List.map_nil, List.setIfInBounds_toArray, List.set_cons_zero, List.set_cons_succ, List.length_cons, List.length_nil]
    refine wpOp_list rfl ?_
    go_wp2
    have L := Blk.put4 KR (.int .i64 r0) (.int .i64 r1) (.int .i64 r2) (.int .i64 r3)
    have z0 := L.cell (i := 0) rfl
    have z1 := L.cell (i := 1) rfl
    have z2 := L.cell (i := 2) rfl
    have z3 := L.cell (i := 3) rfl
    exact bodyPost_ret (v := .agg #[.int .i64 r0, .int .i64 r1, .int .i64 r2, .int .i64 r3]) (by simp [results, Try.results24, go_sem, z0, z1, z2, z3]) rfl ⟨rfl, ((((hb9.trans (hS.mono hb9.size)).setCell (by simp only; omega) _).setCell (by simp only; omega) _).setCell (by simp only; omega) _).setCell (by simp only; omega) _⟩

end Go.Proofs.Ythdhakpmhndbfaa

namespace Go.Proofs.Ythdhakpmhndbfaa
open Go.RowKit Go.Shelf
attribute [local go_sem] Oper.semAt_some

/-- An error and a plane are right. -/
def plainQ (p : V4) (e want : Int) (v : V4) : Bool := if want = 0 then decide (e = 0) && decide (p = v) else decide (e = want) && decide (p = ⟨0, 0, 0, 0⟩)

set_option maxRecDepth 100000 in
set_option maxHeartbeats 4000000 in
theorem plain_any (p v : V4) (e want : Int) (w : World) :
    Calls Try.prog 16 #[.agg #[.int .i64 p.a, .int .i64 p.b, .int .i64 p.c, .int .i64 p.d], .int .i64 e, .int .i64 want, .agg #[.int .i64 v.a, .int .i64 v.b, .int .i64 v.c, .int .i64 v.d]] w fun e' w' => e' = .returned (.bool (plainQ p e want v)) ∧ Below w.heap.size w w' := by
  obtain ⟨w1, hw1⟩ : ∃ w1, ((w.alloc (.cells #[.int .i64 p.a, .int .i64 p.b, .int .i64 p.c, .int .i64 p.d] 23)).alloc (.cells #[.int .i64 v.a, .int .i64 v.b, .int .i64 v.c, .int .i64 v.d] 23)) = w1 := ⟨_, rfl⟩
  have hb1 : Below w.heap.size w w1 := by rw [← hw1]; exact bw2 w _ _
  have k0 : Blk w1 w.heap.size #[.int .i64 p.a, .int .i64 p.b, .int .i64 p.c, .int .i64 p.d] 23 := by rw [← hw1]; exact (Blk.new w _ _).alloc _
  have k1 : Blk w1 (w.heap.size + 1) #[.int .i64 v.a, .int .i64 v.b, .int .i64 v.c, .int .i64 v.d] 23 := by rw [← hw1]; exact Blk.new' _ _ _ (by simp)
  have c0 := k0.cell (i := 0) rfl
  have c1 := k0.cell (i := 1) rfl
  have c2 := k0.cell (i := 2) rfl
  have c3 := k0.cell (i := 3) rfl
  have d0 := k1.cell (i := 0) rfl
  have d1 := k1.cell (i := 1) rfl
  have d2 := k1.cell (i := 2) rfl
  have d3 := k1.cell (i := 3) rfl
  by_cases hw : want = 0
  · subst hw
    have hq := fun w => eqPlane p v w
    by_cases he : e = 0
    · subst he
      have hr : plainQ p 0 0 v = decide (p = v) := by unfold plainQ; simp
      rw [hr]
      clear hr
      generalize decide (p = v) = B at *
      go_enter Try.func16, Try.ntmps16
      go_wp2_with fail
      go_ret
      exact ⟨rfl, hb1⟩
    · have hr : plainQ p e 0 v = false := by unfold plainQ; simp [he]
      have he' : (e == 0) = false := by simp [he]
      rw [hr]
      clear hr hq he
      go_enter Try.func16, Try.ntmps16
      go_wp2_with fail
      go_ret
      exact ⟨rfl, hb1⟩
  · have hq := fun w => eqPlane p ⟨0, 0, 0, 0⟩ w
    have hw' : (want != 0) = true := by simp [hw]
    by_cases he : e = want
    · subst he
      have hr : plainQ p e e v = decide (p = ⟨0, 0, 0, 0⟩) := by unfold plainQ; rw [if_neg hw]; simp
      rw [hr]
      clear hr hw
      generalize decide (p = ⟨0, 0, 0, 0⟩) = B at *
      go_enter Try.func16, Try.ntmps16
      go_wp2_with fail
      go_ret
      exact ⟨rfl, hb1⟩
    · have hr : plainQ p e want v = false := by unfold plainQ; rw [if_neg hw]; simp [he]
      have he' : (e == want) = false := by simp [he]
      rw [hr]
      clear hr hq he hw
      go_enter Try.func16, Try.ntmps16
      go_wp2_with fail
      go_ret
      exact ⟨rfl, hb1⟩

end Go.Proofs.Ythdhakpmhndbfaa

namespace Go.Proofs.Ythdhakpmhndbfaa
open Go.RowKit Go.Shelf
attribute [local go_sem] Oper.semAt_some

theorem aw3_make (w : World) : Calls Try.prog 12 #[.int .i64 2, .int .i64 4, .int .i64 0, .int .i64 (-6)] w fun e w' => e = .returned (.tuple #[.agg #[.int .i64 1, .int .i64 2, .int .i64 0, .int .i64 (-3)], .int .i64 0]) ∧ Below w.heap.size w w' := by
  refine (make_some 2 4 0 (-6) w (by decide) (by decide) (by decide) (by decide) (by decide)).mono ?_
  rintro e w' ⟨rfl, hb⟩
  have h : MakeOk 2 4 0 (-6) := by decide +kernel
  have l0 : low4 2 4 0 (-6) 2 = 1 := by decide +kernel
  have l1 : low4 2 4 0 (-6) 4 = 2 := by decide +kernel
  have l2 : low4 2 4 0 (-6) 0 = 0 := by decide +kernel
  have l3 : low4 2 4 0 (-6) (-6) = -3 := by decide +kernel
  rw [if_pos h, decide_eq_true h, l0, l1, l2, l3]
  exact ⟨rfl, hb⟩
theorem aw3_side (w : World) : Calls Try.prog 21 #[.agg #[.int .i64 1, .int .i64 0, .int .i64 0, .int .i64 (-1)], .agg #[.int .i64 1, .int .i64 0, .int .i64 0, .int .i64 2]] w fun e w' => e = .returned (.tuple #[.int .i64 (-1), .int .i64 0]) ∧ Below w.heap.size w w' := by
  refine (side_any ⟨1, 0, 0, -1⟩ ⟨1, 0, 0, 2⟩ w (by unfold InV; decide) (by unfold InV; decide)).mono ?_
  rintro e w' ⟨rfl, hb⟩
  have h1 : RightP 1 0 0 (-1) := by decide +kernel
  have h2 : SoundP 1 0 0 2 := by decide +kernel
  have h3 : sgnI (dotL ⟨1, 0, 0, -1⟩ ⟨1, 0, 0, 2⟩ (List.range 4)) = -1 := by decide +kernel
  refine ⟨?_, hb⟩
  show Ending.returned (.tuple #[.int .i64 (if RightP 1 0 0 (-1) ∧ SoundP 1 0 0 2 then sgnI (dotL ⟨1, 0, 0, -1⟩ ⟨1, 0, 0, 2⟩ (List.range 4)) else 0), .int .i64 (firstE [errE (decide (RightP 1 0 0 (-1))) 30, errE (decide (SoundP 1 0 0 2)) 40])]) = _
  rw [if_pos ⟨h1, h2⟩, h3, decide_eq_true h1, decide_eq_true h2]; rfl
theorem aw3_through (w : World) : Calls Try.prog 25 #[.agg #[.int .i64 0, .int .i64 0, .int .i64 0, .int .i64 1], .agg #[.int .i64 1, .int .i64 0, .int .i64 0, .int .i64 1], .agg #[.int .i64 0, .int .i64 1, .int .i64 0, .int .i64 1]] w fun e w' => e = .returned (.tuple #[.agg #[.int .i64 0, .int .i64 0, .int .i64 1, .int .i64 0], .int .i64 0]) ∧ Below w.heap.size w w' := by
  refine (through_any ⟨0, 0, 0, 1⟩ ⟨1, 0, 0, 1⟩ ⟨0, 1, 0, 1⟩ w (by unfold InV; decide) (by unfold InV; decide) (by unfold InV; decide)).mono ?_
  rintro e w' ⟨rfl, hb⟩
  have h1 : thrP ⟨0, 0, 0, 1⟩ ⟨1, 0, 0, 1⟩ ⟨0, 1, 0, 1⟩ = ⟨0, 0, 1, 0⟩ := by decide +kernel
  have h2 : thrE ⟨0, 0, 0, 1⟩ ⟨1, 0, 0, 1⟩ ⟨0, 1, 0, 1⟩ = 0 := by decide +kernel
  rw [h1, h2]
  exact ⟨rfl, hb⟩
theorem aw3_shift (w : World) : Calls Try.prog 37 #[.agg #[.int .i64 1, .int .i64 0, .int .i64 0, .int .i64 (-1)], .agg #[.int .i64 2, .int .i64 7, .int .i64 7]] w fun e w' => e = .returned (.tuple #[.agg #[.int .i64 1, .int .i64 0, .int .i64 0, .int .i64 (-3)], .int .i64 0]) ∧ Below w.heap.size w w' := by
  refine (shift_any ⟨1, 0, 0, -1⟩ 2 7 7 w (by unfold InV; decide)).mono ?_
  rintro e w' ⟨rfl, hb⟩
  have h1 : shP ⟨1, 0, 0, -1⟩ 2 7 7 = ⟨1, 0, 0, -3⟩ := by decide +kernel
  have h2 : shE ⟨1, 0, 0, -1⟩ 2 7 7 = 0 := by decide +kernel
  rw [h1, h2]
  exact ⟨rfl, hb⟩
theorem aw3_check (w : World) : Calls Try.prog 11 #[.agg #[.int .i64 1, .int .i64 0, .int .i64 (-2), .int .i64 (-5)]] w fun e w' => e = .returned (.int .i64 0) ∧ Below w.heap.size w w' := by
  refine (check_any 1 0 (-2) (-5) w (by decide) (by decide) (by decide) (by decide)).mono ?_
  rintro e w' ⟨rfl, hb⟩
  have h : RightP 1 0 (-2) (-5) := by decide +kernel
  rw [decide_eq_true h]
  exact ⟨rfl, hb⟩
theorem aw3_check0 (w : World) : Calls Try.prog 11 #[.agg #[.int .i64 0, .int .i64 0, .int .i64 0, .int .i64 0]] w fun e w' => e = .returned (.int .i64 30) ∧ Below w.heap.size w w' := by
  refine (check_any 0 0 0 0 w (by decide) (by decide) (by decide) (by decide)).mono ?_
  rintro e w' ⟨rfl, hb⟩
  have h : ¬ RightP 0 0 0 0 := by decide +kernel
  rw [decide_eq_false h]
  exact ⟨rfl, hb⟩
theorem aw3_shown (w : World) : Calls Try.prog 15 #[.agg #[.int .i64 (-1), .int .i64 0, .int .i64 2, .int .i64 5]] w fun e w' => e = .returned (.tuple #[.agg #[.int .i64 1, .int .i64 0, .int .i64 (-2), .int .i64 (-5)], .int .i64 0]) ∧ Below w.heap.size w w' := by
  refine (shownApi_any (-1) 0 2 5 w (by decide) (by decide) (by decide) (by decide)).mono ?_
  rintro e w' ⟨rfl, hb⟩
  have h : RightP (-1) 0 2 5 := by decide +kernel
  have h2 : shownP ⟨-1, 0, 2, 5⟩ = ⟨1, 0, -2, -5⟩ := by decide +kernel
  rw [if_pos h, decide_eq_true h, h2]
  exact ⟨rfl, hb⟩

set_option maxRecDepth 100000 in
set_option maxHeartbeats 4000000 in
theorem awake3_any (w : World) : Calls Try.prog 20 #[] w fun e w' => e = .returned (.bool true) ∧ Below w.heap.size w w' := by
  have hq := fun p q w => eqPlane p q w
  go_enter Try.func20, Try.ntmps20
  go_wp2_with fail
  refine (aw3_make _).mono ?_
  rintro e w1 ⟨rfl, hb1⟩
  obtain ⟨wa1, hwa1⟩ : ∃ w', w1.alloc (.cells #[.int .i64 0, .int .i64 0, .int .i64 0, .int .i64 0] 23) = w' := ⟨_, rfl⟩
  have ka : Blk wa1 w1.heap.size #[.int .i64 0, .int .i64 0, .int .i64 0, .int .i64 0] 23 := by rw [← hwa1]; exact Blk.new _ _ _
  have hba1 : Below w.heap.size w wa1 := by rw [← hwa1]; exact hb1.alloc hb1.size _
  have a10 := ka.cell (i := 0) rfl
  have a11 := ka.cell (i := 1) rfl
  have a12 := ka.cell (i := 2) rfl
  have a13 := ka.cell (i := 3) rfl
  have f10 := ka.frozen 0
  have f11 := ka.frozen 1
  have f12 := ka.frozen 2
  have f13 := ka.frozen 3
  obtain ⟨ws1, hws1⟩ : ∃ w', ((((wa1.setCell ⟨w1.heap.size, 0, none⟩ (.int .i64 1)).setCell ⟨w1.heap.size, 1, none⟩ (.int .i64 2)).setCell ⟨w1.heap.size, 2, none⟩ (.int .i64 0)).setCell ⟨w1.heap.size, 3, none⟩ (.int .i64 (-3))) = w' := ⟨_, rfl⟩
  have K1 : Blk ws1 w1.heap.size #[.int .i64 1, .int .i64 2, .int .i64 0, .int .i64 (-3)] 23 := by rw [← hws1]; exact Blk.put4 ka _ _ _ _
  have hbs1 : Below w.heap.size w ws1 := by have := hb1.size; rw [← hws1]; exact (((hba1.setCell (by simp only; omega) _).setCell (by simp only; omega) _).setCell (by simp only; omega) _).setCell (by simp only; omega) _
  have hbk1 : Below w1.heap.size w1 ws1 := by rw [← hws1]; exact ((((by rw [← hwa1]; exact (Below.refl _ _).alloc (Nat.le_refl _) _ : Below w1.heap.size w1 wa1).setCell (by simp only; omega) _).setCell (by simp only; omega) _).setCell (by simp only; omega) _).setCell (by simp only; omega) _
  go_wp2_with fail
  refine (aw3_side _).mono ?_
  rintro e w2 ⟨rfl, hb2⟩
  have K1 := K1.kept hb2
  have hb2' := hbs1.trans (hb2.mono hbs1.size)
  go_wp2_with fail
  refine (aw3_through _).mono ?_
  rintro e w3 ⟨rfl, hb3⟩
  have K1 := K1.kept hb3
  have hb3' := hb2'.trans (hb3.mono hb2'.size)
  obtain ⟨wa2, hwa2⟩ : ∃ w', w3.alloc (.cells #[.int .i64 0, .int .i64 0, .int .i64 0, .int .i64 0] 23) = w' := ⟨_, rfl⟩
  have ka : Blk wa2 w3.heap.size #[.int .i64 0, .int .i64 0, .int .i64 0, .int .i64 0] 23 := by rw [← hwa2]; exact Blk.new _ _ _
  have hba2 : Below w.heap.size w wa2 := by rw [← hwa2]; exact hb3'.alloc hb3'.size _
  have a20 := ka.cell (i := 0) rfl
  have a21 := ka.cell (i := 1) rfl
  have a22 := ka.cell (i := 2) rfl
  have a23 := ka.cell (i := 3) rfl
  have f20 := ka.frozen 0
  have f21 := ka.frozen 1
  have f22 := ka.frozen 2
  have f23 := ka.frozen 3
  obtain ⟨ws2, hws2⟩ : ∃ w', ((((wa2.setCell ⟨w3.heap.size, 0, none⟩ (.int .i64 0)).setCell ⟨w3.heap.size, 1, none⟩ (.int .i64 0)).setCell ⟨w3.heap.size, 2, none⟩ (.int .i64 1)).setCell ⟨w3.heap.size, 3, none⟩ (.int .i64 0)) = w' := ⟨_, rfl⟩
  have K2 : Blk ws2 w3.heap.size #[.int .i64 0, .int .i64 0, .int .i64 1, .int .i64 0] 23 := by rw [← hws2]; exact Blk.put4 ka _ _ _ _
  have hbs2 : Below w.heap.size w ws2 := by have := hb3'.size; rw [← hws2]; exact (((hba2.setCell (by simp only; omega) _).setCell (by simp only; omega) _).setCell (by simp only; omega) _).setCell (by simp only; omega) _
  have hbk2 : Below w3.heap.size w3 ws2 := by rw [← hws2]; exact ((((by rw [← hwa2]; exact (Below.refl _ _).alloc (Nat.le_refl _) _ : Below w3.heap.size w3 wa2).setCell (by simp only; omega) _).setCell (by simp only; omega) _).setCell (by simp only; omega) _).setCell (by simp only; omega) _
  have K1 := K1.kept hbk2
  go_wp2_with fail
  refine (aw3_shown _).mono ?_
  rintro e w4 ⟨rfl, hb4⟩
  have K1 := K1.kept hb4
  have K2 := K2.kept hb4
  have hb4' := hbs2.trans (hb4.mono hbs2.size)
  obtain ⟨wa3, hwa3⟩ : ∃ w', w4.alloc (.cells #[.int .i64 0, .int .i64 0, .int .i64 0, .int .i64 0] 23) = w' := ⟨_, rfl⟩
  have ka : Blk wa3 w4.heap.size #[.int .i64 0, .int .i64 0, .int .i64 0, .int .i64 0] 23 := by rw [← hwa3]; exact Blk.new _ _ _
  have hba3 : Below w.heap.size w wa3 := by rw [← hwa3]; exact hb4'.alloc hb4'.size _
  have a30 := ka.cell (i := 0) rfl
  have a31 := ka.cell (i := 1) rfl
  have a32 := ka.cell (i := 2) rfl
  have a33 := ka.cell (i := 3) rfl
  have f30 := ka.frozen 0
  have f31 := ka.frozen 1
  have f32 := ka.frozen 2
  have f33 := ka.frozen 3
  obtain ⟨ws3, hws3⟩ : ∃ w', ((((wa3.setCell ⟨w4.heap.size, 0, none⟩ (.int .i64 1)).setCell ⟨w4.heap.size, 1, none⟩ (.int .i64 0)).setCell ⟨w4.heap.size, 2, none⟩ (.int .i64 (-2))).setCell ⟨w4.heap.size, 3, none⟩ (.int .i64 (-5))) = w' := ⟨_, rfl⟩
  have K3 : Blk ws3 w4.heap.size #[.int .i64 1, .int .i64 0, .int .i64 (-2), .int .i64 (-5)] 23 := by rw [← hws3]; exact Blk.put4 ka _ _ _ _
  have hbs3 : Below w.heap.size w ws3 := by have := hb4'.size; rw [← hws3]; exact (((hba3.setCell (by simp only; omega) _).setCell (by simp only; omega) _).setCell (by simp only; omega) _).setCell (by simp only; omega) _
  have hbk3 : Below w4.heap.size w4 ws3 := by rw [← hws3]; exact ((((by rw [← hwa3]; exact (Below.refl _ _).alloc (Nat.le_refl _) _ : Below w4.heap.size w4 wa3).setCell (by simp only; omega) _).setCell (by simp only; omega) _).setCell (by simp only; omega) _).setCell (by simp only; omega) _
  have K1 := K1.kept hbk3
  have K2 := K2.kept hbk3
  go_wp2_with fail
  refine (aw3_shift _).mono ?_
  rintro e w5 ⟨rfl, hb5⟩
  have K1 := K1.kept hb5
  have K2 := K2.kept hb5
  have K3 := K3.kept hb5
  have hb5' := hbs3.trans (hb5.mono hbs3.size)
  obtain ⟨wa4, hwa4⟩ : ∃ w', w5.alloc (.cells #[.int .i64 0, .int .i64 0, .int .i64 0, .int .i64 0] 23) = w' := ⟨_, rfl⟩
  have ka : Blk wa4 w5.heap.size #[.int .i64 0, .int .i64 0, .int .i64 0, .int .i64 0] 23 := by rw [← hwa4]; exact Blk.new _ _ _
  have hba4 : Below w.heap.size w wa4 := by rw [← hwa4]; exact hb5'.alloc hb5'.size _
  have a40 := ka.cell (i := 0) rfl
  have a41 := ka.cell (i := 1) rfl
  have a42 := ka.cell (i := 2) rfl
  have a43 := ka.cell (i := 3) rfl
  have f40 := ka.frozen 0
  have f41 := ka.frozen 1
  have f42 := ka.frozen 2
  have f43 := ka.frozen 3
  obtain ⟨ws4, hws4⟩ : ∃ w', ((((wa4.setCell ⟨w5.heap.size, 0, none⟩ (.int .i64 1)).setCell ⟨w5.heap.size, 1, none⟩ (.int .i64 0)).setCell ⟨w5.heap.size, 2, none⟩ (.int .i64 0)).setCell ⟨w5.heap.size, 3, none⟩ (.int .i64 (-3))) = w' := ⟨_, rfl⟩
  have K4 : Blk ws4 w5.heap.size #[.int .i64 1, .int .i64 0, .int .i64 0, .int .i64 (-3)] 23 := by rw [← hws4]; exact Blk.put4 ka _ _ _ _
  have hbs4 : Below w.heap.size w ws4 := by have := hb5'.size; rw [← hws4]; exact (((hba4.setCell (by simp only; omega) _).setCell (by simp only; omega) _).setCell (by simp only; omega) _).setCell (by simp only; omega) _
  have hbk4 : Below w5.heap.size w5 ws4 := by rw [← hws4]; exact ((((by rw [← hwa4]; exact (Below.refl _ _).alloc (Nat.le_refl _) _ : Below w5.heap.size w5 wa4).setCell (by simp only; omega) _).setCell (by simp only; omega) _).setCell (by simp only; omega) _).setCell (by simp only; omega) _
  have K1 := K1.kept hbk4
  have K2 := K2.kept hbk4
  have K3 := K3.kept hbk4
  have p0 := K1.cell (i := 0) rfl
  have p1 := K1.cell (i := 1) rfl
  have p2 := K1.cell (i := 2) rfl
  have p3 := K1.cell (i := 3) rfl
  have q0 := K2.cell (i := 0) rfl
  have q1 := K2.cell (i := 1) rfl
  have q2 := K2.cell (i := 2) rfl
  have q3 := K2.cell (i := 3) rfl
  have r0 := K3.cell (i := 0) rfl
  have r1 := K3.cell (i := 1) rfl
  have r2 := K3.cell (i := 2) rfl
  have r3 := K3.cell (i := 3) rfl
  have s0 := K4.cell (i := 0) rfl
  have s1 := K4.cell (i := 1) rfl
  have s2 := K4.cell (i := 2) rfl
  have s3 := K4.cell (i := 3) rfl
  have E1 := fun w => hq ⟨1, 2, 0, -3⟩ ⟨1, 2, 0, -3⟩ w
  have E2 := fun w => hq ⟨0, 0, 1, 0⟩ ⟨0, 0, 1, 0⟩ w
  have E3 := fun w => hq ⟨1, 0, -2, -5⟩ ⟨1, 0, -2, -5⟩ w
  have E4 := fun w => hq ⟨1, 0, 0, -3⟩ ⟨1, 0, 0, -3⟩ w
  simp only [decide_true] at E1 E2 E3 E4
  clear hq
  go_wp2_with fail
  refine (aw3_check _).mono ?_
  rintro e w6 ⟨rfl, hb6⟩
  have hb6' := hbs4.trans (hb6.mono hbs4.size)
  go_wp2_with fail
  refine (aw3_check0 _).mono ?_
  rintro e w7 ⟨rfl, hb7⟩
  have hb7' := hb6'.trans (hb7.mono hb6'.size)
  go_wp2_with fail
  go_ret
  exact ⟨rfl, hb7'⟩

end Go.Proofs.Ythdhakpmhndbfaa

namespace Go.Proofs.Ythdhakpmhndbfaa
open Go.RowKit Go.Shelf
attribute [local go_sem] Oper.semAt_some

theorem plainQ_true {p v : V4} {e : Int} (h1 : e = 0 → p = v) (h2 : e ≠ 0 → p = ⟨0, 0, 0, 0⟩) : plainQ p e e v = true := by
  unfold plainQ
  by_cases h : e = 0
  · rw [if_pos h]; simp [h, h1 h]
  · rw [if_neg h]; simp [h2 h]
end Go.Proofs.Ythdhakpmhndbfaa
