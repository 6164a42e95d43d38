/-
  Package plane: the plane through three points; Package plane: the order of two planes' coefficients; Package plane: what is shown, and the order; Package plane: whether two planes' coefficients are the same; Package plane: on which side of a plane a point lies.
-/
import Derived.Deep.CutBlock
import Derived.ChangeKeysEq
import Derived.Test.YthdhakpmhndbfaaK1
import Derived.Test.YthdhakpmhndbfaaK2
import Derived.Test.YthdhakpmhndbfaaK3
import Derived.Test.YthdhakpmhndbfaaK4
import Derived.Test.YthdhakpmhndbfaaK5
import Derived.Test.YthdhakpmhndbfaaK6
import Derived.Test.YthdhakpmhndbfaaK7
import Derived.Test.YthdhakpmhndbfaaK8
import Derived.Test.YthdhakpmhndbfaaK9
namespace Go.Proofs.Ythdhakpmhndbfaa
open Go.RowKit Go.Shelf
attribute [local go_sem] Oper.semAt_some

set_option maxRecDepth 100000 in
set_option maxHeartbeats 8000000 in
theorem through_any (p q r : V4) (w : World) (hp : InV p) (hq : InV q) (hrr : InV r) :
    Calls Try.prog 25 #[.agg #[.int .i64 p.a, .int .i64 p.b, .int .i64 p.c, .int .i64 p.d], .agg #[.int .i64 q.a, .int .i64 q.b, .int .i64 q.c, .int .i64 q.d], .agg #[.int .i64 r.a, .int .i64 r.b, .int .i64 r.c, .int .i64 r.d]] w fun e w' => e = .returned (.tuple #[.agg #[.int .i64 (thrP p q r).a, .int .i64 (thrP p q r).b, .int .i64 (thrP p q r).c, .int .i64 (thrP p q r).d], .int .i64 (thrE p q r)]) ∧ Below w.heap.size w w' := by
  obtain ⟨w1, hw1⟩ : ∃ w1, ((((w.alloc (.cells #[.int .i64 p.a, .int .i64 p.b, .int .i64 p.c, .int .i64 p.d] 37)).alloc (.cells #[.int .i64 q.a, .int .i64 q.b, .int .i64 q.c, .int .i64 q.d] 37)).alloc (.cells #[.int .i64 r.a, .int .i64 r.b, .int .i64 r.c, .int .i64 r.d] 37)).alloc (.cells #[.int .i64 0, .int .i64 0, .int .i64 0, .int .i64 0] 23)) = w1 := ⟨_, rfl⟩
  have hb1 : Below w.heap.size w w1 := by rw [← hw1]; exact bw4' w _ _ _ _
  have k0 : Blk w1 (w.heap.size) #[.int .i64 p.a, .int .i64 p.b, .int .i64 p.c, .int .i64 p.d] 37 := by rw [← hw1]; exact (((Blk.new w _ _).alloc _).alloc _).alloc _
  have k1 : Blk w1 (w.heap.size + 1) #[.int .i64 q.a, .int .i64 q.b, .int .i64 q.c, .int .i64 q.d] 37 := by rw [← hw1]; exact ((Blk.new' _ _ _ (by simp)).alloc _).alloc _
  have k2 : Blk w1 (w.heap.size + 1 + 1) #[.int .i64 r.a, .int .i64 r.b, .int .i64 r.c, .int .i64 r.d] 37 := by rw [← hw1]; exact (Blk.new' _ _ _ (by simp)).alloc _
  have kR : Blk w1 (w.heap.size + 1 + 1 + 1) #[.int .i64 0, .int .i64 0, .int .i64 0, .int .i64 0] 23 := by rw [← hw1]; exact Blk.new' _ _ _ (by simp)
  have p00 := k0.cell (i := 0) rfl
  have p01 := k0.cell (i := 1) rfl
  have p02 := k0.cell (i := 2) rfl
  have p03 := k0.cell (i := 3) rfl
  have p10 := k1.cell (i := 0) rfl
  have p11 := k1.cell (i := 1) rfl
  have p12 := k1.cell (i := 2) rfl
  have p13 := k1.cell (i := 3) rfl
  have p20 := k2.cell (i := 0) rfl
  have p21 := k2.cell (i := 1) rfl
  have p22 := k2.cell (i := 2) rfl
  have p23 := k2.cell (i := 3) rfl
  obtain ⟨w2, hw2⟩ : ∃ w2, w1.alloc (.cells #[.int .i64 p.a, .int .i64 p.b, .int .i64 p.c, .int .i64 p.d, .int .i64 q.a, .int .i64 q.b, .int .i64 q.c, .int .i64 q.d, .int .i64 r.a, .int .i64 r.b, .int .i64 r.c, .int .i64 r.d] 37) = w2 := ⟨_, rfl⟩
  have hr2 : RdV w2 (some ⟨w1.heap.size, 0, none⟩) [p, q, r] := by rw [← hw2]; exact points3 w1 p q r _
  have hb2 : Below w1.heap.size w1 w2 := by rw [← hw2]; exact (Below.refl _ w1).alloc (Nat.le_refl _) _
  have hpl := points_any (some ⟨w1.heap.size, 0, none⟩) 3 3 [p, q, r] w2 rfl (by decide) hr2 (by intro x hx; simp at hx; rcases hx with rfl | rfl | rfl; exact hp; exact hq; exact hrr)
  have hall : ([p, q, r] : List V4).all (fun q => decide (SoundP q.a q.b q.c q.d)) = sound3 p q r := by simp [sound3, SoundQ]
  rw [hall] at hpl
  have hbd : sound3 p q r = true → SoundQ p ∧ SoundQ q ∧ SoundQ r := fun hh => by simpa [sound3] using hh
  have hX := fun W => cross_any p q r W hp hq hrr
  obtain ⟨t, ht⟩ : ∃ t, sound3 p q r = t := ⟨_, rfl⟩
  have hE : thrE p q r = if t = true then (if zero3 p q r then 4 else errE (decide (thrOk p q r)) 2) else 40 := by unfold thrE; rw [ht]
  have hP : thrP p q r = if t = true then (if zero3 p q r then ⟨0, 0, 0, 0⟩ else if thrOk p q r then thrL p q r else ⟨0, 0, 0, 0⟩) else ⟨0, 0, 0, 0⟩ := by unfold thrP; rw [ht]
  rw [ht] at hpl hbd
  obtain ⟨PV, hPV⟩ : ∃ v, thrP p q r = v := ⟨_, rfl⟩
  obtain ⟨EV, hEV⟩ : ∃ v, thrE p q r = v := ⟨_, rfl⟩
  rw [hPV] at hP ⊢
  rw [hEV] at hE ⊢
  have HPE := Lib.hid (And.intro hP hE)
  clear hPV hEV
  have HP := Lib.hid hpl
  have HX := Lib.hid hX
  have HBD := Lib.hid hbd
  clear hpl hall hr2 hp hq hrr hbd hX ht hE hP
  go_enter Try.func25, Try.ntmps25
  go_wp2_with fail
  refine HP.out.mono ?_
  rintro e' w3 ⟨v, rfl, hv, hb3⟩
  have hb13 := hb2.trans (hb3.mono hb2.size)
  obtain ⟨gf, caps, rfl, _⟩ := id hv
  obtain ⟨w4, hw4⟩ : ∃ w4, w3.alloc (.cells #[.func (.func gf) #[] caps] 70) = w4 := ⟨_, rfl⟩
  have hr4 : RdC w4 (some ⟨w3.heap.size, 0, none⟩) [errE t 40] := by rw [← hw4]; exact checks1 w3 _ _ _ hv
  have hb14 : Below w1.heap.size w1 w4 := by rw [← hw4]; exact hb13.alloc hb13.size _
  have hf := first_any (some ⟨w3.heap.size, 0, none⟩) 1 1 [errE t 40] w4 rfl (by decide) hr4
  rw [firstE_one] at hf
  have HF := Lib.hid hf
  clear hf hr4 hv
  go_wp2_with fail
  refine HF.out.mono ?_
  rintro e' w5 ⟨rfl, hb5⟩
  have hb15 := hb14.trans (hb5.mono hb14.size)
  have hb5' := hb1.trans (hb15.mono hb1.size)
  have k0 := k0.kept hb15
  have k1 := k1.kept hb15
  have k2 := k2.kept hb15
  have kR := kR.kept hb15
  have p00 := k0.cell (i := 0) rfl
  have p01 := k0.cell (i := 1) rfl
  have p02 := k0.cell (i := 2) rfl
  have p03 := k0.cell (i := 3) rfl
  have p10 := k1.cell (i := 0) rfl
  have p11 := k1.cell (i := 1) rfl
  have p12 := k1.cell (i := 2) rfl
  have p13 := k1.cell (i := 3) rfl
  have p20 := k2.cell (i := 0) rfl
  have p21 := k2.cell (i := 1) rfl
  have p22 := k2.cell (i := 2) rfl
  have p23 := k2.cell (i := 3) rfl
  clear hw1 hw2 hw4 hb1 hb2 hb3 hb13 hb14 hb15 hb5 HF HP
  cases t
  · rw [show errE false 40 = 40 from rfl]
    have HV : Hid (Ending.returned (.tuple #[.agg #[.int .i64 0, .int .i64 0, .int .i64 0, .int .i64 0], .int .i64 40]) = Ending.returned (.tuple #[.agg #[.int .i64 PV.a, .int .i64 PV.b, .int .i64 PV.c, .int .i64 PV.d], .int .i64 EV])) := Lib.hid (by rw [HPE.out.1, HPE.out.2]; rfl)
    have d0 := kR.cell (i := 0) rfl
    have d1 := kR.cell (i := 1) rfl
    have d2 := kR.cell (i := 2) rfl
    have d3 := kR.cell (i := 3) rfl
    have q0 := kR.frozen 0
    have q1 := kR.frozen 1
    have q2 := kR.frozen 2
    have q3 := kR.frozen 3
    go_wp2_with fail
    have L := Blk.put4 kR (.int .i64 0) (.int .i64 0) (.int .i64 0) (.int .i64 0)
    have z0 := L.cell (i := 0) rfl
    have z1 := L.cell (i := 1) rfl
    have z2 := L.cell (i := 2) rfl
    have z3 := L.cell (i := 3) rfl
    exact bodyPost_ret (v := .tuple #[.agg #[.int .i64 0, .int .i64 0, .int .i64 0, .int .i64 0], .int .i64 40]) (by simp [results, Try.results25, go_sem, z0, z1, z2, z3]) rfl ⟨HV.out, (((hb5'.setCell (by simp only; omega) _).setCell (by simp only; omega) _).setCell (by simp only; omega) _).setCell (by simp only; omega) _⟩
  · rw [show errE true 40 = 0 from rfl]
    obtain ⟨sp, sq, sr⟩ := HBD.out rfl
    have hfit := cross_fits sp sq sr
    have hat := fun B c W n0 n1 n2 e0 e1 e2 hg h0 h1 h2 hB hz => at_thr p q r B c W sp hz n0 n1 n2 e0 e1 e2 hg h0 h1 h2 hB
    obtain ⟨x, hx⟩ : ∃ x, crossX p q r = x := ⟨_, rfl⟩
    obtain ⟨y, hy⟩ : ∃ x, crossY p q r = x := ⟨_, rfl⟩
    obtain ⟨z, hz⟩ : ∃ x, crossZ p q r = x := ⟨_, rfl⟩
    rw [hx, hy, hz] at HX hfit hat
    have hzero : zero3 p q r ↔ (x = 0 ∧ y = 0 ∧ z = 0) := by unfold zero3; rw [hx, hy, hz]
    have hno : ∀ (n0 n1 n2 : Int) (g : Nat), 0 < g → g = gcdL 0 [x, y, z] → n0 * g = x → n1 * g = y → n2 * g = z → (1000 < n0.natAbs ∨ 1000 < n1.natAbs ∨ 1000 < n2.natAbs) → ¬ thrOk p q r := by
      intro n0 n1 n2 g hg hg3 e0 e1 e2 hb
      unfold thrOk
      rw [hx, hy, hz]
      exact through_big hg hg3 e0 e1 e2 hb
    obtain ⟨xh, hxh⟩ : ∃ v, hiW x = v := ⟨_, rfl⟩
    obtain ⟨xl, hxl⟩ : ∃ v, loW x = v := ⟨_, rfl⟩
    obtain ⟨yh, hyh⟩ : ∃ v, hiW y = v := ⟨_, rfl⟩
    obtain ⟨yl, hyl⟩ : ∃ v, loW y = v := ⟨_, rfl⟩
    obtain ⟨zh, hzh⟩ : ∃ v, hiW z = v := ⟨_, rfl⟩
    obtain ⟨zl, hzl⟩ : ∃ v, loW z = v := ⟨_, rfl⟩
    have hwz : (x = 0 ∧ y = 0 ∧ z = 0) ↔ ((xh = 0 ∧ xl = 0) ∧ (yh = 0 ∧ yl = 0) ∧ (zh = 0 ∧ zl = 0)) := by
      have a0 := zero_words (hfit x (by simp)).1
      have a1 := zero_words (hfit y (by simp)).1
      have a2 := zero_words (hfit z (by simp)).1
      rw [← a0, ← a1, ← a2, hxh, hxl, hyh, hyl, hzh, hzl]
    have HW := Lib.hid (And.intro (And.intro hxh hxl) (And.intro (And.intro hyh hyl) (And.intro hzh hzl)))
    have HX2 := HX.out
    unfold sum3V at HX2
    rw [hxh, hxl, hyh, hyl, hzh, hzl] at HX2
    have HX := Lib.hid HX2
    have HFIT := Lib.hid hfit
    have HAT := Lib.hid hat
    have HNO := Lib.hid hno
    clear HX2 hxh hxl hyh hyl hzh hzl hfit hat hno sp sq sr HBD hx hy hz
    go_upto_region 4 with fail
    go_cut [9] from 23 to 26 (fun v9 wx => ∃ b, v9 = .pointer (some ⟨b, 0, none⟩) ∧ w5.heap.size ≤ b ∧ Blk wx b #[.int .u64 xh, .int .u64 xl, .int .u64 yh, .int .u64 yl, .int .u64 zh, .int .u64 zl] 89 ∧ Below w5.heap.size w5 wx)
    case first =>
      go_wp2_with fail
      refine (HX.out _).mono ?_
      rintro e' w6 ⟨rfl, hb6⟩
      obtain ⟨w9, hw9⟩ : ∃ w9, w6.alloc (.cells #[.int .u64 0, .int .u64 0, .int .u64 0, .int .u64 0, .int .u64 0, .int .u64 0] 89) = w9 := ⟨_, rfl⟩
      have K9 : Blk w9 w6.heap.size #[.int .u64 0, .int .u64 0, .int .u64 0, .int .u64 0, .int .u64 0, .int .u64 0] 89 := by rw [← hw9]; exact Blk.new w6 _ _
      have h9 : Below w5.heap.size w5 w9 := by rw [← hw9]; exact hb6.alloc hb6.size _
      have d0 := K9.cell (i := 0) rfl
      have d1 := K9.cell (i := 1) rfl
      have d2 := K9.cell (i := 2) rfl
      have d3 := K9.cell (i := 3) rfl
      have d4 := K9.cell (i := 4) rfl
      have d5 := K9.cell (i := 5) rfl
      have q0 := K9.frozen 0
      have q1 := K9.frozen 1
      have q2 := K9.frozen 2
      have q3 := K9.frozen 3
      have q4 := K9.frozen 4
      have q5 := K9.frozen 5
      go_wp2_with fail
      go_meet
      case rel =>
        refine ⟨w6.heap.size, rfl, hb6.size, Blk.put6 K9 (.int .u64 xh) (.int .u64 xl) (.int .u64 yh) (.int .u64 yl) (.int .u64 zh) (.int .u64 zl), ?_⟩
        exact (((((h9.setCell (by simp only; exact hb6.size) _).setCell (by simp only; exact hb6.size) _).setCell (by simp only; exact hb6.size) _).setCell (by simp only; exact hb6.size) _).setCell (by simp only; exact hb6.size) _).setCell (by simp only; exact hb6.size) _
    case rest =>
    obtain ⟨b, rfl, hbN, k9, hb7⟩ := hcut
    have k0 := k0.kept hb7
    have k1 := k1.kept hb7
    have k2 := k2.kept hb7
    have kR := kR.kept hb7
    have hb7' := hb5'.trans (hb7.mono hb5'.size)
    clear hb7 hb5' p00 p01 p02 p03 p10 p11 p12 p13 p20 p21 p22 p23
    have p00 := k0.cell (i := 0) rfl
    have p01 := k0.cell (i := 1) rfl
    have p02 := k0.cell (i := 2) rfl
    have p03 := k0.cell (i := 3) rfl
    have p10 := k1.cell (i := 0) rfl
    have p11 := k1.cell (i := 1) rfl
    have p12 := k1.cell (i := 2) rfl
    have p13 := k1.cell (i := 3) rfl
    have p20 := k2.cell (i := 0) rfl
    have p21 := k2.cell (i := 1) rfl
    have p22 := k2.cell (i := 2) rfl
    have p23 := k2.cell (i := 3) rfl
    have s0 := k9.cell (i := 0) rfl
    have s1 := k9.cell (i := 1) rfl
    have s2 := k9.cell (i := 2) rfl
    have s3 := k9.cell (i := 3) rfl
    have s4 := k9.cell (i := 4) rfl
    have s5 := k9.cell (i := 5) rfl
    have heq := fun w => eqIn_sum3 xh xl yh yl zh zl w
    by_cases h0 : (xh = 0 ∧ xl = 0) ∧ (yh = 0 ∧ yl = 0) ∧ (zh = 0 ∧ zl = 0)
    · have hzz := hzero.2 (hwz.2 h0)
      have HV : Hid (Ending.returned (.tuple #[.agg #[.int .i64 0, .int .i64 0, .int .i64 0, .int .i64 0], .int .i64 4]) = Ending.returned (.tuple #[.agg #[.int .i64 PV.a, .int .i64 PV.b, .int .i64 PV.c, .int .i64 PV.d], .int .i64 EV])) := Lib.hid (by rw [HPE.out.1, HPE.out.2]; simp [hzz])
      clear hzz
      simp only [decide_eq_true h0] at heq
      clear h0 hzero hwz
      have d0 := kR.cell (i := 0) rfl
      have d1 := kR.cell (i := 1) rfl
      have d2 := kR.cell (i := 2) rfl
      have d3 := kR.cell (i := 3) rfl
      have q0 := kR.frozen 0
      have q1 := kR.frozen 1
      have q2 := kR.frozen 2
      have q3 := kR.frozen 3
      go_wp2_with fail
      have L := Blk.put4 kR (.int .i64 0) (.int .i64 0) (.int .i64 0) (.int .i64 0)
      have z0 := L.cell (i := 0) rfl
      have z1 := L.cell (i := 1) rfl
      have z2 := L.cell (i := 2) rfl
      have z3 := L.cell (i := 3) rfl
      exact bodyPost_ret (v := .tuple #[.agg #[.int .i64 0, .int .i64 0, .int .i64 0, .int .i64 0], .int .i64 4]) (by simp [results, Try.results25, go_sem, z0, z1, z2, z3]) rfl ⟨HV.out, (((hb7'.setCell (by simp only; omega) _).setCell (by simp only; omega) _).setCell (by simp only; omega) _).setCell (by simp only; omega) _⟩
    · have hnz : ¬ zero3 p q r := fun h => h0 (hwz.1 (hzero.1 h))
      have hxyz : ¬ (x = 0 ∧ y = 0 ∧ z = 0) := fun h => h0 (hwz.1 h)
      have hPE : PV = (if thrOk p q r then thrL p q r else ⟨0, 0, 0, 0⟩) ∧ EV = errE (decide (thrOk p q r)) 2 := by
        have := HPE.out
        simpa [hnz] using this
      have HPE := Lib.hid hPE
      clear hPE
      simp only [decide_eq_false h0] at heq
      have hls := lowest_any (some ⟨b, 0, none⟩) 3 3 [x, y, z] _ rfl (by decide) (rdSum3 HW.out k9) HFIT.out
      obtain ⟨g, hg⟩ : ∃ g, gcdL 0 [x, y, z] = g := ⟨_, rfl⟩
      have hdv := (gcdL_dvd [x, y, z] 0).2
      have hgp : 0 < g := by
        rcases Nat.eq_zero_or_pos g with h | h
        · exfalso
          rw [hg, h] at hdv
          have z0 := Nat.eq_zero_of_zero_dvd (hdv x (by simp))
          have z1 := Nat.eq_zero_of_zero_dvd (hdv y (by simp))
          have z2 := Nat.eq_zero_of_zero_dvd (hdv z (by simp))
          exact hxyz ⟨by omega, by omega, by omega⟩
        · exact h
      rw [hg] at hdv hls
      have hq' : ∀ v ∈ [x, y, z], v.tdiv g * g = v := fun v hv => by
        have hd : (g : Int) ∣ v := Int.ofNat_dvd_left.2 (hdv v hv)
        rw [Int.tdiv_eq_ediv_of_dvd hd]; exact Int.ediv_mul_cancel hd
      have e0 := hq' x (by simp)
      have e1 := hq' y (by simp)
      have e2 := hq' z (by simp)
      rw [show lowRow g [x, y, z] = [x.tdiv g, y.tdiv g, z.tdiv g] from rfl, show iCells [x.tdiv g, y.tdiv g, z.tdiv g] = #[.int .i64 (x.tdiv g), .int .i64 (y.tdiv g), .int .i64 (z.tdiv g)] from rfl] at hls
      have hbigI : ∀ n : Int, ¬ InI64 n → 1000 < n.natAbs := fun n h => by unfold InI64 at h; omega
      have hnot : (∃ v ∈ [x, y, z], ¬ InI64 (v.tdiv g)) → ¬ thrOk p q r := by
        rintro ⟨v, hv, hb⟩
        have := hbigI _ hb
        simp only [List.mem_cons, List.not_mem_nil, or_false] at hv
        refine HNO.out _ _ _ _ hgp hg.symm e0 e1 e2 ?_
        rcases hv with rfl | rfl | rfl
        · exact .inl this
        · exact .inr (.inl this)
        · exact .inr (.inr this)
      have hat2 := fun c B W h0 h1 h2 hB => HAT.out B c W (x.tdiv g) (y.tdiv g) (z.tdiv g) (by rw [hg]; exact e0) (by rw [hg]; exact e1) (by rw [hg]; exact e2) (by rw [hg]; exact hgp) h0 h1 h2 hB hnz
      have hno2 := HNO.out _ _ _ _ hgp hg.symm e0 e1 e2
      obtain ⟨n0, hn0⟩ : ∃ n, x.tdiv g = n := ⟨_, rfl⟩
      obtain ⟨n1, hn1⟩ : ∃ n, y.tdiv g = n := ⟨_, rfl⟩
      obtain ⟨n2, hn2⟩ : ∃ n, z.tdiv g = n := ⟨_, rfl⟩
      rw [hn0, hn1, hn2] at hls hat2 hno2
      have HLS := Lib.hid hls
      have HAT2 := Lib.hid hat2
      have HNOT := Lib.hid hnot
      have HNO2 := Lib.hid hno2
      clear hls hat2 hnot hno2 hq' e0 e1 e2 hn0 hn1 hn2 hbigI hdv hgp h0 hxyz hnz hzero hwz HNO HAT HFIT
      go_wp2_with fail
      refine HLS.out.mono ?_
      rintro e' w8 ⟨hb8, hcase⟩
      have k0 := k0.kept hb8
      have k1 := k1.kept hb8
      have k2 := k2.kept hb8
      have kR := kR.kept hb8
      have hb8' := hb7'.trans (hb8.mono hb7'.size)
      clear p00 p01 p02 p03 p10 p11 p12 p13 p20 p21 p22 p23 s0 s1 s2 s3 s4 s5
      have p00 := k0.cell (i := 0) rfl
      have p01 := k0.cell (i := 1) rfl
      have p02 := k0.cell (i := 2) rfl
      have p03 := k0.cell (i := 3) rfl
      have p10 := k1.cell (i := 0) rfl
      have p11 := k1.cell (i := 1) rfl
      have p12 := k1.cell (i := 2) rfl
      have p13 := k1.cell (i := 3) rfl
      have p20 := k2.cell (i := 0) rfl
      have p21 := k2.cell (i := 1) rfl
      have p22 := k2.cell (i := 2) rfl
      have p23 := k2.cell (i := 3) rfl
      have d0 := kR.cell (i := 0) rfl
      have d1 := kR.cell (i := 1) rfl
      have d2 := kR.cell (i := 2) rfl
      have d3 := kR.cell (i := 3) rfl
      have q0 := kR.frozen 0
      have q1 := kR.frozen 1
      have q2 := kR.frozen 2
      have q3 := kR.frozen 3
      rcases hcase with ⟨hin, B, hB8, rfl, kB⟩ | ⟨hex, rfl⟩
      · have hwi := withins_any 1000 (some ⟨B, 0, none⟩) 3 3 [n0, n1, n2] w8 rfl (by decide) (rdI3 kB) (by decide) (by decide)
        obtain ⟨tt, htt⟩ : ∃ t, within 1000 [n0, n1, n2] = t := ⟨_, rfl⟩
        have hws : within 1000 [n0, n1, n2] = decide (n0.natAbs ≤ 1000 ∧ n1.natAbs ≤ 1000 ∧ n2.natAbs ≤ 1000) := by
          have s : ∀ n : Int, (-1000 ≤ n ∧ n ≤ 1000) ↔ n.natAbs ≤ 1000 := fun n => by omega
          simp [within, s]
        rw [htt] at hwi
        rw [htt] at hws
        have HWI := Lib.hid hwi
        have HWS := Lib.hid hws
        clear hwi hws htt hin
        go_wp2_with fail
        refine HWI.out.mono ?_
        rintro e' w9 ⟨v, rfl, hv, hb9⟩
        obtain ⟨gf, caps, rfl, _⟩ := id hv
        obtain ⟨w10, hw10⟩ : ∃ w4, w9.alloc (.cells #[.func (.func gf) #[] caps] 70) = w4 := ⟨_, rfl⟩
        have hr10 : RdC w10 (some ⟨w9.heap.size, 0, none⟩) [errE tt 1] := by rw [← hw10]; exact checks1 w9 _ _ _ hv
        have hb10 : Below w8.heap.size w8 w10 := by rw [← hw10]; exact hb9.alloc hb9.size _
        have hf := first_any (some ⟨w9.heap.size, 0, none⟩) 1 1 [errE tt 1] w10 rfl (by decide) hr10
        rw [firstE_one] at hf
        have HF := Lib.hid hf
        clear hf hr10 hv
        go_wp2_with fail
        refine HF.out.mono ?_
        rintro e' w11 ⟨rfl, hb11⟩
        have hb811 := hb10.trans (hb11.mono hb10.size)
        have hb11' := hb8'.trans (hb811.mono hb8'.size)
        have k0 := k0.kept hb811
        have kR := kR.kept hb811
        have kB := kB.kept hb811
        clear hw10 hb9 hb10 hb11 hb811 HF HWI p00 p01 p02 p03 p10 p11 p12 p13 p20 p21 p22 p23 d0 q0 d1 q1 d2 q2 d3 q3
        have p00 := k0.cell (i := 0) rfl
        have p01 := k0.cell (i := 1) rfl
        have p02 := k0.cell (i := 2) rfl
        have p03 := k0.cell (i := 3) rfl
        have d0 := kR.cell (i := 0) rfl
        have d1 := kR.cell (i := 1) rfl
        have d2 := kR.cell (i := 2) rfl
        have d3 := kR.cell (i := 3) rfl
        have q0 := kR.frozen 0
        have q1 := kR.frozen 1
        have q2 := kR.frozen 2
        have q3 := kR.frozen 3
        cases tt
        · rw [show errE false 1 = 1 from rfl]
          have hbad : ¬ thrOk p q r := HNO2.out (by have := of_decide_eq_false HWS.out.symm; omega)
          have HV : Hid (Ending.returned (.tuple #[.agg #[.int .i64 0, .int .i64 0, .int .i64 0, .int .i64 0], .int .i64 2]) = Ending.returned (.tuple #[.agg #[.int .i64 PV.a, .int .i64 PV.b, .int .i64 PV.c, .int .i64 PV.d], .int .i64 EV])) := Lib.hid (by rw [HPE.out.1, HPE.out.2, if_neg hbad, decide_eq_false hbad]; rfl)
          clear hbad
          go_wp2_with fail
          have L := Blk.put4 kR (.int .i64 0) (.int .i64 0) (.int .i64 0) (.int .i64 0)
          have z0 := L.cell (i := 0) rfl
          have z1 := L.cell (i := 1) rfl
          have z2 := L.cell (i := 2) rfl
          have z3 := L.cell (i := 3) rfl
          exact bodyPost_ret (v := .tuple #[.agg #[.int .i64 0, .int .i64 0, .int .i64 0, .int .i64 0], .int .i64 2]) (by simp [results, Try.results25, go_sem, z0, z1, z2, z3]) rfl ⟨HV.out, (((hb11'.setCell (by simp only; omega) _).setCell (by simp only; omega) _).setCell (by simp only; omega) _).setCell (by simp only; omega) _⟩
        · rw [show errE true 1 = 0 from rfl]
          have hsm := of_decide_eq_true HWS.out.symm
          have ha := HAT2.out 3 B w11 hsm.1 hsm.2.1 hsm.2.2 kB
          obtain ⟨E, hE⟩ : ∃ E, errE (decide (thrOk p q r)) 2 = E := ⟨_, rfl⟩
          rw [hE] at ha
          obtain ⟨T, hT⟩ : ∃ T : V4, (if thrOk p q r then thrL p q r else ⟨0, 0, 0, 0⟩) = T := ⟨_, rfl⟩
          have hTv : (if thrOk p q r then .agg #[.int .i64 (thrL p q r).a, .int .i64 (thrL p q r).b, .int .i64 (thrL p q r).c, .int .i64 (thrL p q r).d] else Value.agg #[.int .i64 0, .int .i64 0, .int .i64 0, .int .i64 0]) = .agg #[.int .i64 T.a, .int .i64 T.b, .int .i64 T.c, .int .i64 T.d] := by
            rw [← hT]; split <;> rfl
          rw [hTv] at ha
          have HV : Hid (Ending.returned (.tuple #[.agg #[.int .i64 T.a, .int .i64 T.b, .int .i64 T.c, .int .i64 T.d], .int .i64 E]) = Ending.returned (.tuple #[.agg #[.int .i64 PV.a, .int .i64 PV.b, .int .i64 PV.c, .int .i64 PV.d], .int .i64 EV])) := Lib.hid (by rw [HPE.out.1, HPE.out.2, hT, hE])
          have HA := Lib.hid ha
          clear ha hsm hE hT hTv HAT2 HNO2 HWS
          go_wp2_with fail
          refine HA.out.mono ?_
          rintro e' w12 ⟨rfl, hb12⟩
          have kR := kR.kept hb12
          have hb12' := hb11'.trans (hb12.mono hb11'.size)
          clear d0 q0 d1 q1 d2 q2 d3 q3
          have d0 := kR.cell (i := 0) rfl
          have d1 := kR.cell (i := 1) rfl
          have d2 := kR.cell (i := 2) rfl
          have d3 := kR.cell (i := 3) rfl
          have q0 := kR.frozen 0
          have q1 := kR.frozen 1
          have q2 := kR.frozen 2
          have q3 := kR.frozen 3
          go_wp2_with fail
          have L := Blk.put4 kR (.int .i64 T.a) (.int .i64 T.b) (.int .i64 T.c) (.int .i64 T.d)
          have z0 := L.cell (i := 0) rfl
          have z1 := L.cell (i := 1) rfl
          have z2 := L.cell (i := 2) rfl
          have z3 := L.cell (i := 3) rfl
          exact bodyPost_ret (v := .tuple #[.agg #[.int .i64 T.a, .int .i64 T.b, .int .i64 T.c, .int .i64 T.d], .int .i64 E]) (by simp [results, Try.results25, go_sem, z0, z1, z2, z3]) rfl ⟨HV.out, (((hb12'.setCell (by simp only; omega) _).setCell (by simp only; omega) _).setCell (by simp only; omega) _).setCell (by simp only; omega) _⟩
      · have hbad : ¬ thrOk p q r := HNOT.out hex
        have HV : Hid (Ending.returned (.tuple #[.agg #[.int .i64 0, .int .i64 0, .int .i64 0, .int .i64 0], .int .i64 2]) = Ending.returned (.tuple #[.agg #[.int .i64 PV.a, .int .i64 PV.b, .int .i64 PV.c, .int .i64 PV.d], .int .i64 EV])) := Lib.hid (by rw [HPE.out.1, HPE.out.2, if_neg hbad, decide_eq_false hbad]; rfl)
        clear hex hbad
        go_wp2_with fail
        have L := Blk.put4 kR (.int .i64 0) (.int .i64 0) (.int .i64 0) (.int .i64 0)
        have z0 := L.cell (i := 0) rfl
        have z1 := L.cell (i := 1) rfl
        have z2 := L.cell (i := 2) rfl
        have z3 := L.cell (i := 3) rfl
        exact bodyPost_ret (v := .tuple #[.agg #[.int .i64 0, .int .i64 0, .int .i64 0, .int .i64 0], .int .i64 2]) (by simp [results, Try.results25, go_sem, z0, z1, z2, z3]) rfl ⟨HV.out, (((hb8'.setCell (by simp only; omega) _).setCell (by simp only; omega) _).setCell (by simp only; omega) _).setCell (by simp only; omega) _⟩

end Go.Proofs.Ythdhakpmhndbfaa

namespace Go.Proofs.Ythdhakpmhndbfaa
open Go.RowKit Go.Shelf
attribute [local go_sem] Oper.semAt_some

theorem cmp_int64 (a b : Int) (w : World) :
    Calls Try.prog 86 #[.int .i64 a, .int .i64 b] w fun e w' => e = .returned (.int .i64 (sgnCmp a b)) ∧ w = w' := by
  rcases Int.lt_trichotomy a b with h | rfl | h
  · have H := Lib.hid (sgnCmp_lt h)
    go_enter Try.func86, Try.ntmps86
    go_wp2
    go_ret
    exact ⟨ret_int H.out.symm, rfl⟩
  · have H := Lib.hid (sgnCmp_eq a)
    go_enter Try.func86, Try.ntmps86
    go_wp2
    go_ret
    exact ⟨ret_int H.out.symm, rfl⟩
  · have H := Lib.hid (sgnCmp_gt h)
    go_enter Try.func86, Try.ntmps86
    go_wp2
    go_ret
    exact ⟨ret_int H.out.symm, rfl⟩

/-- The order by the first coefficient that differs. -/
def cmpV (p q : V4) : Int := if p.a ≠ q.a then sgnCmp p.a q.a else if p.b ≠ q.b then sgnCmp p.b q.b else if p.c ≠ q.c then sgnCmp p.c q.c else sgnCmp p.d q.d
theorem cmpV_at {p q : V4} {j : Nat} (hj : j < 4) (h : ∀ i ∈ List.range j, vg p i = vg q i) (hne : vg p j ≠ vg q j) : cmpV p q = sgnCmp (vg p j) (vg q j) := by
  have h0 : 0 < j → p.a = q.a := fun hl => h 0 (List.mem_range.2 hl)
  have h1 : 1 < j → p.b = q.b := fun hl => h 1 (List.mem_range.2 hl)
  have h2 : 2 < j → p.c = q.c := fun hl => h 2 (List.mem_range.2 hl)
  rcases j with _ | _ | _ | _ | j
  · rw [cmpV, if_pos (show p.a ≠ q.a from hne)]; rfl
  · rw [cmpV, if_neg (fun hh => hh (h0 (by omega))), if_pos (show p.b ≠ q.b from hne)]; rfl
  · rw [cmpV, if_neg (fun hh => hh (h0 (by omega))), if_neg (fun hh => hh (h1 (by omega))), if_pos (show p.c ≠ q.c from hne)]; rfl
  · rw [cmpV, if_neg (fun hh => hh (h0 (by omega))), if_neg (fun hh => hh (h1 (by omega))), if_neg (fun hh => hh (h2 (by omega)))]; rfl
  · omega
theorem cmpV_none {p q : V4} (h : ∀ i ∈ List.range 4, vg p i = vg q i) : cmpV p q = 0 := by
  have h0 : p.a = q.a := h 0 (List.mem_range.2 (by omega))
  have h1 : p.b = q.b := h 1 (List.mem_range.2 (by omega))
  have h2 : p.c = q.c := h 2 (List.mem_range.2 (by omega))
  have h3 : p.d = q.d := h 3 (List.mem_range.2 (by omega))
  rw [cmpV, if_neg (fun hh => hh h0), if_neg (fun hh => hh h1), if_neg (fun hh => hh h2), h3, sgnCmp_eq]

theorem range_snoc {k x : Nat} {pre : List Nat} (h : List.range k = pre ++ [x]) : pre = List.range x ∧ k = x + 1 := by
  cases k with
  | zero => simp at h
  | succ j =>
    rw [List.range_succ] at h
    have := List.append_inj' h rfl
    have h2 : j = x := by simpa using this.2
    subst h2
    exact ⟨this.1.symm, rfl⟩

theorem bw5 (w : World) (a b c d e : Obj) : Below w.heap.size w (((((w.alloc a).alloc b).alloc c).alloc d).alloc e) :=
  (bw4 w a b c d).alloc (bw4 w a b c d).size _

set_option maxRecDepth 100000 in
set_option maxHeartbeats 4000000 in
theorem compareP_any (p q : V4) (w : World) :
    Calls Try.prog 63 #[.agg #[.int .i64 p.a, .int .i64 p.b, .int .i64 p.c, .int .i64 p.d], .agg #[.int .i64 q.a, .int .i64 q.b, .int .i64 q.c, .int .i64 q.d]] w fun e w' => e = .returned (.int .i64 (cmpV p q)) ∧ Below w.heap.size w w' := by
  refine (callsIn_wide (n := 6)).1 ?_
  refine callsIn_of_wp_marks Try.func63 rfl trivial ?_ rfl
  simp only [Try.ntmps63, List.size_toArray, List.length_cons, List.length_nil, Nat.reduceAdd, Nat.reduceSub, Array.replicate_succ, Array.replicate_zero, List.push_toArray, List.append_toArray, List.nil_append, List.cons_append]
  gi_wp2_with (refine ⟨trivial, ?_⟩; gi_at_call 78; refine (pairs_in Fence.wide _ trivial rfl p q _).mono ?_; rintro e w' ⟨rfl, rfl⟩)
  obtain ⟨W0, hW0⟩ : ∃ W0, (((((w.alloc (.cells #[.int .i64 p.a, .int .i64 p.b, .int .i64 p.c, .int .i64 p.d] 23)).alloc (.cells #[.int .i64 q.a, .int .i64 q.b, .int .i64 q.c, .int .i64 q.d] 23)).alloc (.cells #[.int .i64 0] 3)).alloc (.cells #[.int .i64 p.a, .int .i64 p.b, .int .i64 p.c, .int .i64 p.d] 22)).alloc (.cells #[.int .i64 q.a, .int .i64 q.b, .int .i64 q.c, .int .i64 q.d] 22)) = W0 := ⟨_, rfl⟩
  have hB0 : Below w.heap.size w W0 := by rw [← hW0]; exact bw5 w _ _ _ _ _
  have kr : Blk W0 (w.heap.size + 1 + 1) #[.int .i64 0] 3 := by rw [← hW0]; exact ((Blk.new' _ _ _ (by simp)).alloc _).alloc _
  have kp : Blk W0 (w.heap.size + 1 + 1 + 1) #[.int .i64 p.a, .int .i64 p.b, .int .i64 p.c, .int .i64 p.d] 22 := by rw [← hW0]; exact (Blk.new' _ _ _ (by simp)).alloc _
  have kq : Blk W0 (w.heap.size + 1 + 1 + 1 + 1) #[.int .i64 q.a, .int .i64 q.b, .int .i64 q.c, .int .i64 q.d] 22 := by rw [← hW0]; exact Blk.new' _ _ _ (by simp)
  have hsz : W0.heap.size = w.heap.size + 1 + 1 + 1 + 1 + 1 := by rw [← hW0]; simp
  rw [hW0]
  clear hW0
  refine wpIn_rangeFunc_ownF rfl (by omega) (gf := 100) (lb := #[.pointer (some ⟨w.heap.size + 1 + 1 + 1, 0, none⟩), .pointer (some ⟨w.heap.size + 1 + 1 + 1 + 1, 0, none⟩)]) rfl trivial (enters_of Try.func100 (by kernel_rfl) rfl)
    (pairs_stops Fence.wide 5 trivial rfl (by omega) (w.heap.size + 1 + 1 + 1) (w.heap.size + 1 + 1 + 1 + 1) (fun b => b = w.heap.size + 1 + 1 + 1 ∨ b = w.heap.size + 1 + 1 + 1 + 1) p q W0 (fun b hb => by omega) kp kq (Or.inl rfl) (Or.inr rfl))
    KeepsAt.trans (KeepsAt.putObj (fun b hb => by omega)) (Below.refl _ _) (fun _ => rfl)
    (fun pre W => (Hid (∀ j ∈ pre, vg p j = vg q j) ∧ Blk W (w.heap.size + 1 + 1) #[.int .i64 0] 3 ∧ W0.heap.size ≤ W.heap.size) ∧ Below w.heap.size w W)
    (fun c pre W => (c = .ret ∧ Hid (∃ pre' x, pre = pre' ++ [x] ∧ (∀ j ∈ pre', vg p j = vg q j) ∧ vg p x ≠ vg q x ∧ Blk W (w.heap.size + 1 + 1) #[.int .i64 (sgnCmp (vg p x) (vg q x))] 3)) ∧ Below w.heap.size w W)
    (OwnFrom.and (Own.from (fun s A B row hs hg hr => ⟨hs.1, hs.2.1.own hg hr, Nat.le_trans hs.2.2 hg.size⟩) _) (ownFrom_below (Nat.le_refl _) (by omega)))
    (fun c => OwnFrom.and (Own.from (fun s A B row hs hg hr => ⟨hs.1, (by obtain ⟨pre', x, e1, e2, e3, e4⟩ := hs.2; exact ⟨pre', x, e1, e2, e3, e4.own hg hr⟩)⟩) _) (ownFrom_below (Nat.le_refl _) (by omega)))
    ⟨⟨(fun j hj => by cases hj), kr, Nat.le_refl _⟩, hB0⟩
    (fun x => { tmps := #[.agg #[.int .i64 p.a, .int .i64 p.b, .int .i64 p.c, .int .i64 p.d], .agg #[.int .i64 q.a, .int .i64 q.b, .int .i64 q.c, .int .i64 q.d], .pointer (some ⟨w.heap.size, 0, none⟩), .pointer (some ⟨w.heap.size + 1, 0, none⟩), .pointer (some ⟨w.heap.size + 1 + 1, 0, none⟩), .int .i64 (vg p x), .int .i64 (vg q x), undef, .agg #[.int .i64 p.a, .int .i64 p.b, .int .i64 p.c, .int .i64 p.d], .agg #[.int .i64 q.a, .int .i64 q.b, .int .i64 q.c, .int .i64 q.d], .func (.func 100) #[] #[.pointer (some ⟨w.heap.size + 1 + 1 + 1, 0, none⟩), .pointer (some ⟨w.heap.size + 1 + 1 + 1 + 1, 0, none⟩)], .int .i64 (vg p x), .int .i64 (vg q x), undef, undef, undef, undef, undef, undef], defers := [] }) ?assign ?body ?done ?stop
  case assign =>
    intro l x W K hK
    unfold encP
    gi_wp2
    exact hK
  case body =>
    rintro l pre k W ⟨⟨hp, kr, hzz⟩, hB⟩ hlt
    by_cases hxy : vg p k = vg q k
    · have hc := fun W' => cmp_int64 (vg p k) (vg q k) W'
      have hz : sgnCmp (vg p k) (vg q k) = 0 := by rw [hxy]; exact sgnCmp_eq _
      rw [hz] at hc
      have HH := Lib.hid hxy
      have HC := Lib.hid hc
      clear hxy hc hz
      gi_wp2_with (refine ⟨trivial, ?_⟩; gi_at_call 86; refine (CallsIn.inRound l (callsIn_wide.2 (HC.out _))).mono ?_; rintro e w' ⟨rfl, rfl⟩)
      exact ⟨KeepsOthers.refl _, KeepsAt.refl _ _, ⟨(fun j hj => (List.mem_append.1 hj).elim (hp.out j) (fun e => by simp at e; subst e; exact HH.out)), kr, hzz⟩, hB⟩
    · have hc := fun W' => cmp_int64 (vg p k) (vg q k) W'
      have hne : (sgnCmp (vg p k) (vg q k) != 0) = true := by
        rcases Int.lt_or_gt_of_ne hxy with h | h
        · rw [sgnCmp_lt h]; rfl
        · rw [sgnCmp_gt h]; rfl
      have HH := Lib.hid hxy
      obtain ⟨n, hn⟩ : ∃ n, sgnCmp (vg p k) (vg q k) = n := ⟨_, rfl⟩
      rw [hn] at hc hne
      have HN := Lib.hid hn
      have HC := Lib.hid hc
      have c0 := kr.cell (i := 0) rfl
      have c1 := kr.frozen 0
      clear hxy hc hn
      gi_wp2_with (refine ⟨trivial, ?_⟩; gi_at_call 86; refine (CallsIn.inRound l (callsIn_wide.2 (HC.out _))).mono ?_; rintro e w' ⟨rfl, rfl⟩)
      refine ⟨KeepsOthers.setCell _ _ _, ⟨rfl, ⟨pre, k, rfl, hp.out, HH.out, ?_⟩⟩, hB.setCell (by simp only; omega) _⟩
      rw [HN.out]
      exact kr.set_eq 0 _ rfl
  case done =>
    rintro D zs W hD rfl ⟨⟨hp, kr, hzz⟩, hB⟩ hK
    have d0 := kr.cell (i := 0) rfl
    have d2 := kr.frozen 0
    gi_wp2
    have hK' := (KeepsOthers.setCell W ⟨w.heap.size + 1 + 1, 0, none⟩ (.int .i64 0)).same D _ hK rfl
    refine ⟨by simp, .inl ⟨_, _, rfl, run_takeDeferred hK', ?_⟩⟩
    have L := (kr.set_eq 0 (.int .i64 0) rfl).own (grownBy_putObj' _ D (.deferred none)) (fun r e => by cases e; exact ⟨_, hK', rfl⟩)
    have z0 := L.cell (i := 0) rfl
    refine ⟨.int .i64 0, ?_, by rw [cmpV_none hp.out], (hB.setCell (p := ⟨w.heap.size + 1 + 1, 0, none⟩) (by simp only; omega) _).trans (belowK_b (w := w) (Nat.le_refl _) _ D _ _ (by omega) hK' rfl rfl)⟩
    simp [results, Try.f63, go_sem, z0]
  case stop =>
    rintro D c pre W hD ⟨k, hk, rfl⟩ ⟨⟨rfl, hs⟩, hB⟩ hK
    obtain ⟨pre', x, e1, e2, e3, e4⟩ := hs.out
    obtain ⟨rfl, rfl⟩ := range_snoc e1
    rw [← cmpV_at (by omega) e2 e3] at e4
    clear hs e1 e2 e3
    gi_wp2
    refine ⟨by simp, .inl ⟨_, _, rfl, run_takeDeferred hK, ?_⟩⟩
    have L := e4.own (grownBy_putObj' _ D (.deferred none)) (fun r e => by cases e; exact ⟨_, hK, rfl⟩)
    have z0 := L.cell (i := 0) rfl
    refine ⟨.int .i64 (cmpV p q), ?_, rfl, hB.trans (belowK_b (w := w) (Nat.le_refl _) W D _ _ (by omega) hK rfl rfl)⟩
    simp [results, Try.f63, go_sem, z0]

end Go.Proofs.Ythdhakpmhndbfaa

namespace Go.Proofs.Ythdhakpmhndbfaa
open Go.RowKit Go.Shelf
attribute [local go_sem] Oper.semAt_some

/-- Of a plane and its opposite the one that is shown. -/
def shownP (q : V4) : V4 := if cmpV q ⟨0, 0, 0, 0⟩ < 0 then ⟨-q.a, -q.b, -q.c, -q.d⟩ else q

set_option maxRecDepth 100000 in
set_option maxHeartbeats 2000000 in
theorem shown_any (a b c d : Int) (w : World) (hr : RightP a b c d) :
    Calls Try.prog 51 #[.agg #[.int .i64 a, .int .i64 b, .int .i64 c, .int .i64 d]] w fun e w' => e = .returned (.agg #[.int .i64 (shownP ⟨a, b, c, d⟩).a, .int .i64 (shownP ⟨a, b, c, d⟩).b, .int .i64 (shownP ⟨a, b, c, d⟩).c, .int .i64 (shownP ⟨a, b, c, d⟩).d]) ∧ Below w.heap.size w w' := by
  obtain ⟨w1, hw1⟩ : ∃ w1, ((w.alloc (.cells #[.int .i64 a, .int .i64 b, .int .i64 c, .int .i64 d] 23)).alloc (.cells #[.int .i64 0, .int .i64 0, .int .i64 0, .int .i64 0] 23)) = w1 := ⟨_, rfl⟩
  have hb1 : Below w.heap.size w w1 := by rw [← hw1]; exact bw2 w _ _
  have k0 : Blk w1 w.heap.size #[.int .i64 a, .int .i64 b, .int .i64 c, .int .i64 d] 23 := by rw [← hw1]; exact (Blk.new w _ _).alloc _
  have k1 : Blk w1 (w.heap.size + 1) #[.int .i64 0, .int .i64 0, .int .i64 0, .int .i64 0] 23 := by rw [← hw1]; exact Blk.new' _ _ _ (by simp)
  have hcp := fun W => compareP_any ⟨a, b, c, d⟩ ⟨0, 0, 0, 0⟩ W
  have c0 := k0.cell (i := 0) rfl
  have c1 := k0.cell (i := 1) rfl
  have c2 := k0.cell (i := 2) rfl
  have c3 := k0.cell (i := 3) rfl
  by_cases hn : cmpV ⟨a, b, c, d⟩ ⟨0, 0, 0, 0⟩ < 0
  · rw [show shownP ⟨a, b, c, d⟩ = ⟨-a, -b, -c, -d⟩ by rw [shownP, if_pos hn]]
    obtain ⟨n, hnn⟩ : ∃ n, cmpV ⟨a, b, c, d⟩ ⟨0, 0, 0, 0⟩ = n := ⟨_, rfl⟩
    rw [hnn] at hcp hn
    have HCP := Lib.hid hcp
    have hin := fun W => opposite_any a b c d W hr
    have HIN := Lib.hid hin
    have hnd : decide (n < 0) = true := decide_eq_true hn
    clear hcp hin hr hnn
    dsimp only
    go_enter Try.func51, Try.ntmps51
    go_wp2_with fail
    refine (HCP.out _).mono ?_
    rintro e w2 ⟨rfl, hb2⟩
    have k0 := k0.kept hb2
    have k1 := k1.kept hb2
    have hb2' := hb1.trans (hb2.mono hb1.size)
    have c0 := k0.cell (i := 0) rfl
    have c1 := k0.cell (i := 1) rfl
    have c2 := k0.cell (i := 2) rfl
    have c3 := k0.cell (i := 3) rfl
    go_wp2_with fail
    refine (HIN.out _).mono ?_
    rintro e w3 ⟨rfl, hb3⟩
    have k1 := k1.kept hb3
    have hb3' := hb2'.trans (hb3.mono hb2'.size)
    have d0 := k1.cell (i := 0) rfl
    have d1 := k1.cell (i := 1) rfl
    have d2 := k1.cell (i := 2) rfl
    have d3 := k1.cell (i := 3) rfl
    have q0 := k1.frozen 0
    have q1 := k1.frozen 1
    have q2 := k1.frozen 2
    have q3 := k1.frozen 3
    go_wp2_with fail
    have L := Blk.put4 k1 (.int .i64 (-a)) (.int .i64 (-b)) (.int .i64 (-c)) (.int .i64 (-d))
    have z0 := L.cell (i := 0) rfl
    have z1 := L.cell (i := 1) rfl
    have z2 := L.cell (i := 2) rfl
    have z3 := L.cell (i := 3) rfl
    exact bodyPost_ret (v := .agg #[.int .i64 (-a), .int .i64 (-b), .int .i64 (-c), .int .i64 (-d)]) (by simp [results, Try.results51, go_sem, z0, z1, z2, z3]) rfl ⟨rfl, (((hb3'.setCell (by simp only; omega) _).setCell (by simp only; omega) _).setCell (by simp only; omega) _).setCell (by simp only; omega) _⟩
  · rw [show shownP ⟨a, b, c, d⟩ = ⟨a, b, c, d⟩ by rw [shownP, if_neg hn]]
    obtain ⟨n, hnn⟩ : ∃ n, cmpV ⟨a, b, c, d⟩ ⟨0, 0, 0, 0⟩ = n := ⟨_, rfl⟩
    rw [hnn] at hcp hn
    have HCP := Lib.hid hcp
    have hnd : decide (n < 0) = false := decide_eq_false hn
    clear hcp hr hnn
    dsimp only
    go_enter Try.func51, Try.ntmps51
    go_wp2_with fail
    refine (HCP.out _).mono ?_
    rintro e w2 ⟨rfl, hb2⟩
    have k0 := k0.kept hb2
    have k1 := k1.kept hb2
    have hb2' := hb1.trans (hb2.mono hb1.size)
    have c0 := k0.cell (i := 0) rfl
    have c1 := k0.cell (i := 1) rfl
    have c2 := k0.cell (i := 2) rfl
    have c3 := k0.cell (i := 3) rfl
    have d0 := k1.cell (i := 0) rfl
    have d1 := k1.cell (i := 1) rfl
    have d2 := k1.cell (i := 2) rfl
    have d3 := k1.cell (i := 3) rfl
    have q0 := k1.frozen 0
    have q1 := k1.frozen 1
    have q2 := k1.frozen 2
    have q3 := k1.frozen 3
    go_wp2_with fail
    have L := Blk.put4 k1 (.int .i64 a) (.int .i64 b) (.int .i64 c) (.int .i64 d)
    have z0 := L.cell (i := 0) rfl
    have z1 := L.cell (i := 1) rfl
    have z2 := L.cell (i := 2) rfl
    have z3 := L.cell (i := 3) rfl
    exact bodyPost_ret (v := .agg #[.int .i64 a, .int .i64 b, .int .i64 c, .int .i64 d]) (by simp [results, Try.results51, go_sem, z0, z1, z2, z3]) rfl ⟨rfl, (((hb2'.setCell (by simp only; omega) _).setCell (by simp only; omega) _).setCell (by simp only; omega) _).setCell (by simp only; omega) _⟩

set_option maxRecDepth 100000 in
set_option maxHeartbeats 2000000 in
theorem shownApi_any (a b c d : Int) (w : World) (ha : InI64 a) (hb : InI64 b) (hc : InI64 c) (hd : InI64 d) :
    Calls Try.prog 15 #[.agg #[.int .i64 a, .int .i64 b, .int .i64 c, .int .i64 d]] w fun e w' => e = .returned (.tuple #[if RightP a b c d then .agg #[.int .i64 (shownP ⟨a, b, c, d⟩).a, .int .i64 (shownP ⟨a, b, c, d⟩).b, .int .i64 (shownP ⟨a, b, c, d⟩).c, .int .i64 (shownP ⟨a, b, c, d⟩).d] else .agg #[.int .i64 0, .int .i64 0, .int .i64 0, .int .i64 0], .int .i64 (errE (decide (RightP a b c d)) 30)]) ∧ Below w.heap.size w w' := by
  obtain ⟨w1, hw1⟩ : ∃ w1, ((w.alloc (.cells #[.int .i64 a, .int .i64 b, .int .i64 c, .int .i64 d] 23)).alloc (.cells #[.int .i64 0, .int .i64 0, .int .i64 0, .int .i64 0] 23)) = w1 := ⟨_, rfl⟩
  have hb1 : Below w.heap.size w w1 := by rw [← hw1]; exact bw2 w _ _
  have k0 : Blk w1 w.heap.size #[.int .i64 a, .int .i64 b, .int .i64 c, .int .i64 d] 23 := by rw [← hw1]; exact (Blk.new w _ _).alloc _
  have k1 : Blk w1 (w.heap.size + 1) #[.int .i64 0, .int .i64 0, .int .i64 0, .int .i64 0] 23 := by rw [← hw1]; exact Blk.new' _ _ _ (by simp)
  have hch := fun W => check_any a b c d W ha hb hc hd
  have c0 := k0.cell (i := 0) rfl
  have c1 := k0.cell (i := 1) rfl
  have c2 := k0.cell (i := 2) rfl
  have c3 := k0.cell (i := 3) rfl
  by_cases hr : RightP a b c d
  · rw [if_pos hr]
    rw [decide_eq_true hr] at hch ⊢
    have HCH := Lib.hid hch
    have hin := fun W => shown_any a b c d W hr
    have HIN := Lib.hid hin
    clear hch hin hr ha hb hc hd
    go_enter Try.func15, Try.ntmps15
    go_wp2_with fail
    refine (HCH.out _).mono ?_
    rintro e w2 ⟨rfl, hb2⟩
    rw [show errE true 30 = 0 from rfl]
    have k0 := k0.kept hb2
    have k1 := k1.kept hb2
    have hb2' := hb1.trans (hb2.mono hb1.size)
    have c0 := k0.cell (i := 0) rfl
    have c1 := k0.cell (i := 1) rfl
    have c2 := k0.cell (i := 2) rfl
    have c3 := k0.cell (i := 3) rfl
    go_wp2_with fail
    refine (HIN.out _).mono ?_
    rintro e w3 ⟨rfl, hb3⟩
    have k1 := k1.kept hb3
    have hb3' := hb2'.trans (hb3.mono hb2'.size)
    have d0 := k1.cell (i := 0) rfl
    have d1 := k1.cell (i := 1) rfl
    have d2 := k1.cell (i := 2) rfl
    have d3 := k1.cell (i := 3) rfl
    have q0 := k1.frozen 0
    have q1 := k1.frozen 1
    have q2 := k1.frozen 2
    have q3 := k1.frozen 3
    go_wp2_with fail
    have L := Blk.put4 k1 (.int .i64 (shownP ⟨a, b, c, d⟩).a) (.int .i64 (shownP ⟨a, b, c, d⟩).b) (.int .i64 (shownP ⟨a, b, c, d⟩).c) (.int .i64 (shownP ⟨a, b, c, d⟩).d)
    have z0 := L.cell (i := 0) rfl
    have z1 := L.cell (i := 1) rfl
    have z2 := L.cell (i := 2) rfl
    have z3 := L.cell (i := 3) rfl
    exact bodyPost_ret (v := .tuple #[.agg #[.int .i64 (shownP ⟨a, b, c, d⟩).a, .int .i64 (shownP ⟨a, b, c, d⟩).b, .int .i64 (shownP ⟨a, b, c, d⟩).c, .int .i64 (shownP ⟨a, b, c, d⟩).d], .int .i64 0]) (by simp [results, Try.results15, go_sem, z0, z1, z2, z3]) rfl ⟨rfl, (((hb3'.setCell (by simp only; omega) _).setCell (by simp only; omega) _).setCell (by simp only; omega) _).setCell (by simp only; omega) _⟩

  · rw [if_neg hr]
    rw [decide_eq_false hr] at hch ⊢
    have HCH := Lib.hid hch
    clear hch hr ha hb hc hd
    go_enter Try.func15, Try.ntmps15
    go_wp2_with fail
    refine (HCH.out _).mono ?_
    rintro e w2 ⟨rfl, hb2⟩
    rw [show errE false 30 = 30 from rfl]
    have k1 := k1.kept hb2
    have hb2' := hb1.trans (hb2.mono hb1.size)
    have d0 := k1.cell (i := 0) rfl
    have d1 := k1.cell (i := 1) rfl
    have d2 := k1.cell (i := 2) rfl
    have d3 := k1.cell (i := 3) rfl
    have q0 := k1.frozen 0
    have q1 := k1.frozen 1
    have q2 := k1.frozen 2
    have q3 := k1.frozen 3
    go_wp2_with fail
    have L := Blk.put4 k1 (.int .i64 0) (.int .i64 0) (.int .i64 0) (.int .i64 0)
    have z0 := L.cell (i := 0) rfl
    have z1 := L.cell (i := 1) rfl
    have z2 := L.cell (i := 2) rfl
    have z3 := L.cell (i := 3) rfl
    exact bodyPost_ret (v := .tuple #[.agg #[.int .i64 0, .int .i64 0, .int .i64 0, .int .i64 0], .int .i64 30]) (by simp [results, Try.results15, go_sem, z0, z1, z2, z3]) rfl ⟨rfl, (((hb2'.setCell (by simp only; omega) _).setCell (by simp only; omega) _).setCell (by simp only; omega) _).setCell (by simp only; omega) _⟩

end Go.Proofs.Ythdhakpmhndbfaa

namespace Go.Proofs.Ythdhakpmhndbfaa
open Go.RowKit Go.Shelf
attribute [local go_sem] Oper.semAt_some

theorem eqPlane (p q : V4) (w : World) : (Op.equalIn 10000 23 (.agg #[.int .i64 p.a, .int .i64 p.b, .int .i64 p.c, .int .i64 p.d]) (.agg #[.int .i64 q.a, .int .i64 q.b, .int .i64 q.c, .int .i64 q.d])).run Try.prog w = .ok (decide (p = q)) w := by
  have u3 := Try.underlying2
  have a3 := Try.isAgg2
  have z3 := Try.sizeOf2
  rw [show (10000 : Nat) = 9999 + 1 from rfl, Op.equalIn]
  simp only [Sem.run_bind, run_underlying Try.underlying23, Result.andThen_ok]
  simp only [Std.Legacy.Range.forIn_eq_forIn_range', Std.Legacy.Range.size, Nat.sub_zero, Nat.add_sub_cancel, Nat.div_one, List.range'_succ, List.range'_zero, List.forIn_cons, List.forIn_nil]
  go_simp
  obtain ⟨a, b, c, d⟩ := p
  obtain ⟨e, f, g, h⟩ := q
  by_cases h1 : a = e <;> by_cases h2 : b = f <;> by_cases h3 : c = g <;> by_cases h4 : d = h <;> simp [h1, h2, h3, h4]

end Go.Proofs.Ythdhakpmhndbfaa

namespace Go.Proofs.Ythdhakpmhndbfaa
open Go.RowKit Go.Shelf
attribute [local go_sem] Oper.semAt_some

theorem checks2 (w : World) (v u : Value) (r s : Int) (t : TypeId) (h : ChkIs w v r) (h2 : ChkIs w u s) : RdC (w.alloc (.cells #[v, u] t)) (some ⟨w.heap.size, 0, none⟩) [r, s] := by
  have hB := Blk.new w #[v, u] t
  intro i y hi
  match i, hi with
  | 0, hi => cases hi; exact ⟨_, 0, v, rfl, hB.lt, hB.cell (i := 0) rfl, h.below ((Below.refl _ w).alloc (Nat.le_refl _) _)⟩
  | 1, hi => cases hi; exact ⟨_, 0, u, rfl, hB.lt, hB.cell (i := 1) rfl, h2.below ((Below.refl _ w).alloc (Nat.le_refl _) _)⟩
  | i + 2, hi => simp at hi

theorem RdC.below {w w' : World} {p : Option Addr} {rs : List Int} (h : RdC w p rs) (hb : Below w.heap.size w w') : RdC w' p rs := by
  intro i r hi
  obtain ⟨b, off, v, rfl, hl, hc, hv⟩ := h i r hi
  exact ⟨b, off, v, rfl, Nat.lt_of_lt_of_le hl hb.size, (hb.cell (p := ⟨b, off + i, none⟩) hl).trans hc, hv.below hb⟩

/-- What the checks of a plane and a point yield. -/
def SideR (p q : V4) (rp rq : Int) (i : Nat) (v : Value) (w : World) : Prop :=
  match i with
  | 0 => v = .agg #[.int .i64 p.a, .int .i64 p.b, .int .i64 p.c, .int .i64 p.d]
  | 1 => ∃ b, v = .slice (some ⟨b, 0, none⟩) 1 1 ∧ RdV w (some ⟨b, 0, none⟩) [p]
  | 2 => ChkIs w v rp
  | 3 => v = .agg #[.int .i64 q.a, .int .i64 q.b, .int .i64 q.c, .int .i64 q.d]
  | 4 => ∃ b, v = .slice (some ⟨b, 0, none⟩) 1 1 ∧ RdV w (some ⟨b, 0, none⟩) [q]
  | 5 => ChkIs w v rq
  | 6 => ∃ b, v = .slice (some ⟨b, 0, none⟩) 2 2 ∧ RdC w (some ⟨b, 0, none⟩) [rp, rq]
  | _ => v = .int .i64 (firstE [rp, rq])
theorem SideR.mono {p q : V4} {rp rq : Int} (i : Nat) (v : Value) (w w' : World) (hb : Below w.heap.size w w') (h : SideR p q rp rq i v w) : SideR p q rp rq i v w' := by
  rcases i with _ | _ | _ | _ | _ | _ | _ | i
  · exact h
  · obtain ⟨b, e, h⟩ := h; exact ⟨b, e, h.below hb⟩
  · exact ChkIs.below h hb
  · exact h
  · obtain ⟨b, e, h⟩ := h; exact ⟨b, e, h.below hb⟩
  · exact ChkIs.below h hb
  · obtain ⟨b, e, h⟩ := h; exact ⟨b, e, h.below hb⟩
  · exact h

theorem side_fits {p q : V4} (hp : RightP p.a p.b p.c p.d) (hq : SoundP q.a q.b q.c q.d) : In127 (dotL p q (List.range 4)) := by
  have e : dotL p q (List.range 4) = p.a * q.a + p.b * q.b + p.c * q.c + p.d * q.d := by simp [dotL, vg, List.range, List.range.loop]
  have m : ∀ {x y : Int} {a b : Nat}, x.natAbs ≤ a → y.natAbs ≤ b → (x * y).natAbs ≤ a * b := fun hx hy => by rw [Int.natAbs_mul]; exact Nat.mul_le_mul hx hy
  have h1 := m hp.2.1 hq.1
  have h2 := m hp.2.2.1 hq.2.1
  have h3 := m hp.2.2.2.1 hq.2.2.1
  have h4 := m hp.2.2.2.2.1 (show q.d.natAbs ≤ 8589934592 by have := hq.2.2.2.1; have := hq.2.2.2.2.1; omega)
  rw [e]
  unfold In127
  omega

set_option maxRecDepth 100000 in
set_option maxHeartbeats 4000000 in
theorem side_any (p q : V4) (w : World) (hp : InV p) (hq : InV q) :
    Calls Try.prog 21 #[.agg #[.int .i64 p.a, .int .i64 p.b, .int .i64 p.c, .int .i64 p.d], .agg #[.int .i64 q.a, .int .i64 q.b, .int .i64 q.c, .int .i64 q.d]] w fun e' w' => e' = .returned (.tuple #[.int .i64 (if RightP p.a p.b p.c p.d ∧ SoundP q.a q.b q.c q.d then sgnI (dotL p q (List.range 4)) else 0), .int .i64 (firstE [errE (decide (RightP p.a p.b p.c p.d)) 30, errE (decide (SoundP q.a q.b q.c q.d)) 40])]) ∧ Below w.heap.size w w' := by
  obtain ⟨w1, hw1⟩ : ∃ w1, ((w.alloc (.cells #[.int .i64 p.a, .int .i64 p.b, .int .i64 p.c, .int .i64 p.d] 23)).alloc (.cells #[.int .i64 q.a, .int .i64 q.b, .int .i64 q.c, .int .i64 q.d] 37)) = w1 := ⟨_, rfl⟩
  have hb1 : Below w.heap.size w w1 := by rw [← hw1]; exact bw2 w _ _
  have k0 : Blk w1 w.heap.size #[.int .i64 p.a, .int .i64 p.b, .int .i64 p.c, .int .i64 p.d] 23 := by rw [← hw1]; exact (Blk.new w _ _).alloc _
  have k1 : Blk w1 (w.heap.size + 1) #[.int .i64 q.a, .int .i64 q.b, .int .i64 q.c, .int .i64 q.d] 37 := by rw [← hw1]; exact Blk.new' _ _ _ (by simp)
  have hpl : ∀ b W, RdV W (some ⟨b, 0, none⟩) [p] → Calls Try.prog 44 #[.slice (some ⟨b, 0, none⟩) 1 1] W fun e w' => ∃ v, e = .returned v ∧ ChkIs w' v (errE (decide (RightP p.a p.b p.c p.d)) 30) ∧ Below W.heap.size W w' := fun b W hR => by
    have h := planes_any (some ⟨b, 0, none⟩) 1 1 [p] W rfl (by decide) hR (by intro x hx; rw [List.mem_singleton.1 hx]; exact hp)
    simpa using h
  have hpt : ∀ b W, RdV W (some ⟨b, 0, none⟩) [q] → Calls Try.prog 52 #[.slice (some ⟨b, 0, none⟩) 1 1] W fun e w' => ∃ v, e = .returned v ∧ ChkIs w' v (errE (decide (SoundP q.a q.b q.c q.d)) 40) ∧ Below W.heap.size W w' := fun b W hR => by
    have h := points_any (some ⟨b, 0, none⟩) 1 1 [q] W rfl (by decide) hR (by intro x hx; rw [List.mem_singleton.1 hx]; exact hq)
    simpa using h
  have hpr := fun W => productP_any p q W hp hq
  have hsg : RightP p.a p.b p.c p.d → SoundP q.a q.b q.c q.d → ∀ W, Calls Try.prog 54 #[sumV (dotL p q (List.range 4))] W fun e' w' => e' = .returned (.int .i64 (sgnI (dotL p q (List.range 4)))) ∧ Below W.heap.size W w' := fun h1 h2 W => sign_any _ W (side_fits h1 h2)
  obtain ⟨rp, hrp⟩ : ∃ r, errE (decide (RightP p.a p.b p.c p.d)) 30 = r := ⟨_, rfl⟩
  obtain ⟨rq, hrq⟩ : ∃ r, errE (decide (SoundP q.a q.b q.c q.d)) 40 = r := ⟨_, rfl⟩
  rw [hrp] at hpl ⊢
  rw [hrq] at hpt ⊢
  have HPL := Lib.hid hpl
  have HPT := Lib.hid hpt
  have HPR := Lib.hid hpr
  have HSG := Lib.hid hsg
  have HRP := Lib.hid hrp
  have HRQ := Lib.hid hrq
  clear hpl hpt hpr hsg hrp hrq hp hq
  obtain ⟨res, hres⟩ : ∃ res, (if RightP p.a p.b p.c p.d ∧ SoundP q.a q.b q.c q.d then sgnI (dotL p q (List.range 4)) else 0) = res := ⟨_, rfl⟩
  rw [hres]
  have HRES := Lib.hid hres
  clear hres
  have N := w.heap.size
  go_enter Try.func21, Try.ntmps21
  go_upto_region 1 with fail
  refine wp_region_flow' (by kernel_rfl) (by kernel_rfl) (SideR p q rp rq) (fun ww => Below w1.heap.size w1 ww) ((Below.refl _ _).drew) (fun i v a b _ _ hb h => SideR.mono i v a b hb h) ?_ ?_
  · intro i hi f ww hS hd
    have c0 := (k0.kept hS).cell (i := 0) rfl
    have c1 := (k0.kept hS).cell (i := 1) rfl
    have c2 := (k0.kept hS).cell (i := 2) rfl
    have c3 := (k0.kept hS).cell (i := 3) rfl
    have d0 := (k1.kept hS).cell (i := 0) rfl
    have d1 := (k1.kept hS).cell (i := 1) rfl
    have d2 := (k1.kept hS).cell (i := 2) rfl
    have d3 := (k1.kept hS).cell (i := 3) rfl
    rcases i with _ | _ | _ | _ | _ | _ | _ | _ | _ | i
    · refine wpOp_list rfl ?_
      simp only [tmOf, putAll, List.map_cons, List.map_nil, List.setIfInBounds_toArray, List.set_cons_zero, List.set_cons_succ]
      go_wp2
      refine ⟨.agg #[.int .i64 p.a, .int .i64 p.b, .int .i64 p.c, .int .i64 p.d], ?_, rfl, Below.refl _ _⟩
      simp [upd]
    · have g0 : f 0 = .agg #[.int .i64 p.a, .int .i64 p.b, .int .i64 p.c, .int .i64 p.d] := hd 0 (by kernel_rfl)
      refine wpOp_list rfl ?_
      simp only [tmOf, putAll, List.map_cons, List.map_nil, List.setIfInBounds_toArray, List.set_cons_zero, List.set_cons_succ]
      go_wp2
      refine ⟨.slice (some ⟨ww.heap.size, 0, none⟩) 1 1, ?_, Exists.intro ww.heap.size (And.intro rfl (planes1 ww p.a p.b p.c p.d _)), hS.alloc hS.size _, (Below.refl _ ww).alloc (Nat.le_refl _) _⟩
      simp [upd, g0]
    · obtain ⟨b, g1, hR⟩ : ∃ b, f 1 = .slice (some ⟨b, 0, none⟩) 1 1 ∧ RdV ww (some ⟨b, 0, none⟩) [p] := hd 1 (by kernel_rfl)
      refine wpOp_list rfl ?_
      simp only [tmOf, putAll, List.map_cons, List.map_nil, List.setIfInBounds_toArray, List.set_cons_zero, List.set_cons_succ]
      go_wp2_with fail
      refine (HPL.out b _ hR).mono ?_
      rintro e' wf ⟨v, rfl, hv, hbf⟩
      go_wp2_with fail
      refine ⟨v, ?_, hv, hS.trans (hbf.mono hS.size)⟩
      simp [upd, g1]
    · refine wpOp_list rfl ?_
      simp only [tmOf, putAll, List.map_cons, List.map_nil, List.setIfInBounds_toArray, List.set_cons_zero, List.set_cons_succ]
      go_wp2
      refine ⟨.agg #[.int .i64 q.a, .int .i64 q.b, .int .i64 q.c, .int .i64 q.d], ?_, rfl, Below.refl _ _⟩
      simp [upd]
    · have g3 : f 3 = .agg #[.int .i64 q.a, .int .i64 q.b, .int .i64 q.c, .int .i64 q.d] := hd 3 (by kernel_rfl)
      refine wpOp_list rfl ?_
      simp only [tmOf, putAll, List.map_cons, List.map_nil, List.setIfInBounds_toArray, List.set_cons_zero, List.set_cons_succ]
      go_wp2
      refine ⟨.slice (some ⟨ww.heap.size, 0, none⟩) 1 1, ?_, Exists.intro ww.heap.size (And.intro rfl (planes1 ww q.a q.b q.c q.d _)), hS.alloc hS.size _, (Below.refl _ ww).alloc (Nat.le_refl _) _⟩
      simp [upd, g3]
    · obtain ⟨b, g4, hR⟩ : ∃ b, f 4 = .slice (some ⟨b, 0, none⟩) 1 1 ∧ RdV ww (some ⟨b, 0, none⟩) [q] := hd 4 (by kernel_rfl)
      refine wpOp_list rfl ?_
      simp only [tmOf, putAll, List.map_cons, List.map_nil, List.setIfInBounds_toArray, List.set_cons_zero, List.set_cons_succ]
      go_wp2_with fail
      refine (HPT.out b _ hR).mono ?_
      rintro e' wf ⟨v, rfl, hv, hbf⟩
      go_wp2_with fail
      refine ⟨v, ?_, hv, hS.trans (hbf.mono hS.size)⟩
      simp [upd, g4]
    · have h2 : ChkIs ww (f 2) rp := hd 2 (by kernel_rfl)
      have h5 : ChkIs ww (f 5) rq := hd 5 (by kernel_rfl)
      obtain ⟨gf, caps, g2, _⟩ := id h2
      obtain ⟨gf', caps', g5, _⟩ := id h5
      have hr2 := checks2 ww _ _ rp rq 70 h2 h5
      rw [g2, g5] at hr2
      clear h2 h5
      refine wpOp_list rfl ?_
      simp only [tmOf, putAll, List.map_cons, List.map_nil, List.setIfInBounds_toArray, List.set_cons_zero, List.set_cons_succ]
      go_wp2
      refine ⟨.slice (some ⟨ww.heap.size, 0, none⟩) 2 2, ?_, Exists.intro ww.heap.size (And.intro rfl hr2), hS.alloc hS.size _, (Below.refl _ ww).alloc (Nat.le_refl _) _⟩
      simp [upd, g2, g5]
    · obtain ⟨b, g6, hR⟩ : ∃ b, f 6 = .slice (some ⟨b, 0, none⟩) 2 2 ∧ RdC ww (some ⟨b, 0, none⟩) [rp, rq] := hd 6 (by kernel_rfl)
      have hf := first_any (some ⟨b, 0, none⟩) 2 2 [rp, rq] ww rfl (by decide) hR
      have HF := Lib.hid hf
      clear hf hR
      refine wpOp_list rfl ?_
      simp only [tmOf, putAll, List.map_cons, List.map_nil, List.setIfInBounds_toArray, List.set_cons_zero, List.set_cons_succ]
      go_wp2_with fail
      refine HF.out.mono ?_
      rintro e' wf ⟨rfl, hbf⟩
      go_wp2_with fail
      refine ⟨.int .i64 (firstE [rp, rq]), ?_, rfl, hS.trans (hbf.mono hS.size)⟩
      simp [upd, g6]
    · have g7 : f 7 = .int .i64 (firstE [rp, rq]) := hd 7 (by kernel_rfl)
      refine wpOp_list rfl ?_
      simp only [tmOf, putAll, List.map_cons, List.map_nil, List.setIfInBounds_toArray, List.set_cons_zero, List.set_cons_succ]
      go_wp2
      refine ⟨.int .i64 (firstE [rp, rq]), ?_, rfl, Below.refl _ _⟩
      simp [upd, g7]
    · simp only [List.length_cons, List.length_nil] at hi; omega
  · intro f ww hS hd
    have g8 : f 8 = .int .i64 (firstE [rp, rq]) := hd 8 (by decide)
    simp only [tmOf, putAll, List.map_cons, List.map_nil, List.setIfInBounds_toArray, List.set_cons_zero, List.set_cons_succ]
    simp only [Nat.zero_add, Nat.reduceAdd, g8]
    have hbw := hb1.trans (hS.mono hb1.size)
    have c0 := (k0.kept hS).cell (i := 0) rfl
    have c1 := (k0.kept hS).cell (i := 1) rfl
    have c2 := (k0.kept hS).cell (i := 2) rfl
    have c3 := (k0.kept hS).cell (i := 3) rfl
    have d0 := (k1.kept hS).cell (i := 0) rfl
    have d1 := (k1.kept hS).cell (i := 1) rfl
    have d2 := (k1.kept hS).cell (i := 2) rfl
    have d3 := (k1.kept hS).cell (i := 3) rfl
    have hcase : (firstE [rp, rq] = 0 ∧ res = sgnI (dotL p q (List.range 4)) ∧ RightP p.a p.b p.c p.d ∧ SoundP q.a q.b q.c q.d) ∨ ((firstE [rp, rq] != 0) = true ∧ res = 0) := by
      rw [← HRP.out, ← HRQ.out, ← HRES.out]
      by_cases h1 : RightP p.a p.b p.c p.d
      · by_cases h2 : SoundP q.a q.b q.c q.d
        · left; rw [decide_eq_true h1, decide_eq_true h2]; exact ⟨rfl, if_pos ⟨h1, h2⟩, h1, h2⟩
        · right; rw [decide_eq_true h1, decide_eq_false h2]; exact ⟨rfl, if_neg (fun hh => h2 hh.2)⟩
      · right; rw [decide_eq_false h1]; exact ⟨rfl, if_neg (fun hh => h1 hh.1)⟩
    obtain ⟨n, hn⟩ : ∃ n, firstE [rp, rq] = n := ⟨_, rfl⟩
    rw [hn] at hcase ⊢
    have HN := Lib.hid hn
    clear hn hd g8 HRP HRQ HRES HPL HPT
    rcases hcase with ⟨rfl, rfl, h1, h2⟩ | ⟨h1, rfl⟩
    · have HSS := Lib.hid (HSG.out h1 h2)
      clear h1 h2 HSG
      go_wp2_with fail
      refine (HPR.out _).mono ?_
      rintro e' w6 ⟨rfl, hb6⟩
      have hb6' := hbw.trans (hb6.mono hbw.size)
      go_wp2_with fail
      refine (HSS.out _).mono ?_
      rintro e' w7 ⟨rfl, hb7⟩
      go_wp2_with fail
      go_ret2
      refine ⟨?_, hb6'.trans (hb7.mono hb6'.size)⟩
      simp [go_sem]
      exact HN.out.symm
    · go_wp2_with fail
      go_ret2
      refine ⟨?_, hbw⟩
      simp [go_sem]
      exact HN.out.symm

end Go.Proofs.Ythdhakpmhndbfaa
