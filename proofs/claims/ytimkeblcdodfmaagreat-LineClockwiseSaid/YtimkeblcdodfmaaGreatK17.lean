/-
  Package point: a point in lowest terms; Package line: how a vector lies to another one.
-/
import Derived.Test.YtimkeblcdodfmaaGreatK1
import Derived.Test.YtimkeblcdodfmaaGreatK2
import Derived.Test.YtimkeblcdodfmaaGreatK3
import Derived.Test.YtimkeblcdodfmaaGreatK4
import Derived.Test.YtimkeblcdodfmaaGreatK5
import Derived.Test.YtimkeblcdodfmaaGreatK6
import Derived.Test.YtimkeblcdodfmaaGreatK7
import Derived.Test.YtimkeblcdodfmaaGreatK8
import Derived.Test.YtimkeblcdodfmaaGreatK9
import Derived.Test.YtimkeblcdodfmaaGreatK16
namespace Go.Proofs.YtimkeblcdodfmaaGreat
open Go.RowKit Go.Shelf
attribute [local go_sem] Oper.semAt_some

theorem sumsK4 (w : World) (xh xl yh yl zh zl kh kl : Int) (x y z k : Int) (h : (hiW x = xh ∧ loW x = xl) ∧ (hiW y = yh ∧ loW y = yl) ∧ (hiW z = zh ∧ loW z = zl) ∧ (hiW k = kh ∧ loW k = kl)) : RdSum (w.alloc (.cells #[.int .u64 xh, .int .u64 xl, .int .u64 yh, .int .u64 yl, .int .u64 zh, .int .u64 zl, .int .u64 kh, .int .u64 kl] 90)) (some ⟨w.heap.size, 0, none⟩) [x, y, z, k] := by
  obtain ⟨⟨rfl, rfl⟩, ⟨rfl, rfl⟩, ⟨rfl, rfl⟩, ⟨rfl, rfl⟩⟩ := h
  have hB := Blk.new w #[.int .u64 (hiW x), .int .u64 (loW x), .int .u64 (hiW y), .int .u64 (loW y), .int .u64 (hiW z), .int .u64 (loW z), .int .u64 (hiW k), .int .u64 (loW k)] 90
  intro i q hi
  match i, hi with
  | 0, hi => cases hi; exact ⟨_, 0, rfl, hB.lt, hB.cell (i := 0) rfl, hB.cell (i := 1) rfl⟩
  | 1, hi => cases hi; exact ⟨_, 0, rfl, hB.lt, hB.cell (i := 2) rfl, hB.cell (i := 3) rfl⟩
  | 2, hi => cases hi; exact ⟨_, 0, rfl, hB.lt, hB.cell (i := 4) rfl, hB.cell (i := 5) rfl⟩
  | 3, hi => cases hi; exact ⟨_, 0, rfl, hB.lt, hB.cell (i := 6) rfl, hB.cell (i := 7) rfl⟩
  | i + 4, hi => simp at hi

/-- Four numbers by their divisor, the last one greater than 0. -/
def lowQ (x y z k : Int) : V4 :=
  ⟨(x * sgnI k).tdiv (gcdL 0 [x * sgnI k, y * sgnI k, z * sgnI k, k * sgnI k]), (y * sgnI k).tdiv (gcdL 0 [x * sgnI k, y * sgnI k, z * sgnI k, k * sgnI k]), (z * sgnI k).tdiv (gcdL 0 [x * sgnI k, y * sgnI k, z * sgnI k, k * sgnI k]), (k * sgnI k).tdiv (gcdL 0 [x * sgnI k, y * sgnI k, z * sgnI k, k * sgnI k])⟩
theorem sgnI_or (x : Int) : sgnI x = 1 ∨ sgnI x = 0 ∨ sgnI x = -1 := by
  unfold sgnI; split
  · simp
  · split <;> simp
theorem soundQ_in {p : V4} (h : SoundQ p) : InV p := by
  obtain ⟨h0, h1, h2, h3, h4, _⟩ := h
  unfold InV InI64
  omega
theorem sgn_i64 (x : Int) : -9223372036854775808 ≤ sgnI x ∧ sgnI x < 9223372036854775808 := by
  rcases sgnI_or x with e | e | e <;> rw [e] <;> decide
def Fit7 (x : Int) : Prop := x.natAbs < 170141183460469231731687303715884105728
theorem fit_127 {x : Int} (h : Fit7 x) : In127 x := by unfold Fit7 at h; unfold In127; omega
theorem fit_sgn {x : Int} (k : Int) (h : Fit7 x) : In127 (x * sgnI k) ∧ (x * sgnI k).natAbs < 170141183460469231731687303715884105728 := by
  unfold Fit7 at h
  unfold In127
  rcases sgnI_or k with e | e | e <;> rw [e] <;> omega

set_option maxRecDepth 100000 in
set_option maxHeartbeats 8000000 in
theorem lowestP_any (x y z k : Int) (w : World) (fx : Fit7 x) (fy : Fit7 y) (fz : Fit7 z) (fk : Fit7 k) :
    Calls Tryz.prog 117 #[sumV x, sumV y, sumV z, sumV k] w fun e w' => e = .returned (.tuple #[.agg #[.int .i64 (smallV (lowQ x y z k)).a, .int .i64 (smallV (lowQ x y z k)).b, .int .i64 (smallV (lowQ x y z k)).c, .int .i64 (smallV (lowQ x y z k)).d], .int .i64 (smallE (lowQ x y z k))]) ∧ Below w.heap.size w w' := by
  have hsg := fun W => sign_any k W (fit_127 fk)
  have gx := fit_sgn k fx
  have gy := fit_sgn k fy
  have gz := fit_sgn k fz
  have gk := fit_sgn k fk
  have hss := sgn_i64 k
  have hx := fun W => times_any x (sgnI k) W hss.1 hss.2
  have hy := fun W => times_any y (sgnI k) W hss.1 hss.2
  have hz := fun W => times_any z (sgnI k) W hss.1 hss.2
  have hk := fun W => times_any k (sgnI k) W hss.1 hss.2
  unfold lowQ
  obtain ⟨s, hs⟩ : ∃ y, sgnI k = y := ⟨_, rfl⟩
  rw [hs] at hsg gx gy gz gk hx hy hz hk ⊢
  clear hss hs fx fy fz fk
  obtain ⟨X, hX⟩ : ∃ y, x * s = y := ⟨_, rfl⟩
  obtain ⟨Y, hY⟩ : ∃ v, y * s = v := ⟨_, rfl⟩
  obtain ⟨Z, hZ⟩ : ∃ y, z * s = y := ⟨_, rfl⟩
  obtain ⟨K, hK⟩ : ∃ y, k * s = y := ⟨_, rfl⟩
  rw [hX] at gx hx ⊢
  rw [hY] at gy hy ⊢
  rw [hZ] at gz hz ⊢
  rw [hK] at gk hk ⊢
  clear hX hY hZ hK
  have hlow : ∀ b W, RdSum W (some ⟨b, 0, none⟩) [X, Y, Z, K] → _ := fun b W hR => lowest_any (some ⟨b, 0, none⟩) 4 4 [X, Y, Z, K] W rfl (by decide) hR (fun q hq => by
    have hq' : q = X ∨ q = Y ∨ q = Z ∨ q = K := by simpa using hq
    rcases hq' with rfl | rfl | rfl | rfl
    · exact gx
    · exact gy
    · exact gz
    · exact gk)
  clear gx gy gz gk
  obtain ⟨g, hg⟩ : ∃ y, gcdL 0 [X, Y, Z, K] = y := ⟨_, rfl⟩
  simp only [hg] at hlow ⊢
  clear hg
  obtain ⟨n0, hn0⟩ : ∃ y, X.tdiv (g : Int) = y := ⟨_, rfl⟩
  obtain ⟨n1, hn1⟩ : ∃ y, Y.tdiv (g : Int) = y := ⟨_, rfl⟩
  obtain ⟨n2, hn2⟩ : ∃ y, Z.tdiv (g : Int) = y := ⟨_, rfl⟩
  obtain ⟨n3, hn3⟩ : ∃ y, K.tdiv (g : Int) = y := ⟨_, rfl⟩
  have hrow : iCells (lowRow g [X, Y, Z, K]) = #[.int .i64 n0, .int .i64 n1, .int .i64 n2, .int .i64 n3] := by rw [← hn0, ← hn1, ← hn2, ← hn3]; rfl
  rw [hn0, hn1, hn2, hn3]
  have hall : (∀ q ∈ [X, Y, Z, K], InI64 (q.tdiv (g : Int))) ↔ InV ⟨n0, n1, n2, n3⟩ := by
    unfold InV
    simp [hn0, hn1, hn2, hn3]
  have hex : (∃ q ∈ [X, Y, Z, K], ¬ InI64 (q.tdiv (g : Int))) ↔ ¬ InV ⟨n0, n1, n2, n3⟩ := by
    rw [← hall]
    exact ⟨fun ⟨q, hq, hb⟩ h => hb (h q hq), fun h => Classical.byContradiction fun hc => h fun q hq => Classical.byContradiction fun hb => hc ⟨q, hq, hb⟩⟩
  simp only [hrow, hall, hex] at hlow
  clear hrow hall hex hn0 hn1 hn2 hn3
  obtain ⟨xh, exh⟩ : ∃ v, hiW x = v := ⟨_, rfl⟩
  obtain ⟨xl, exl⟩ : ∃ v, loW x = v := ⟨_, rfl⟩
  obtain ⟨yh, eyh⟩ : ∃ v, hiW y = v := ⟨_, rfl⟩
  obtain ⟨yl, eyl⟩ : ∃ v, loW y = v := ⟨_, rfl⟩
  obtain ⟨zh, ezh⟩ : ∃ v, hiW z = v := ⟨_, rfl⟩
  obtain ⟨zl, ezl⟩ : ∃ v, loW z = v := ⟨_, rfl⟩
  obtain ⟨kh, ekh⟩ : ∃ v, hiW k = v := ⟨_, rfl⟩
  obtain ⟨kl, ekl⟩ : ∃ v, loW k = v := ⟨_, rfl⟩
  obtain ⟨txh, etxh⟩ : ∃ v, hiW X = v := ⟨_, rfl⟩
  obtain ⟨txl, etxl⟩ : ∃ v, loW X = v := ⟨_, rfl⟩
  obtain ⟨tyh, etyh⟩ : ∃ v, hiW Y = v := ⟨_, rfl⟩
  obtain ⟨tyl, etyl⟩ : ∃ v, loW Y = v := ⟨_, rfl⟩
  obtain ⟨tzh, etzh⟩ : ∃ v, hiW Z = v := ⟨_, rfl⟩
  obtain ⟨tzl, etzl⟩ : ∃ v, loW Z = v := ⟨_, rfl⟩
  obtain ⟨tkh, etkh⟩ : ∃ v, hiW K = v := ⟨_, rfl⟩
  obtain ⟨tkl, etkl⟩ : ∃ v, loW K = v := ⟨_, rfl⟩
  have HW := Lib.hid (And.intro (And.intro etxh etxl) (And.intro (And.intro etyh etyl) (And.intro (And.intro etzh etzl) (And.intro etkh etkl))))
  unfold sumV at hsg hx hy hz hk ⊢
  rw [exh, exl, etxh, etxl] at hx
  rw [eyh, eyl, etyh, etyl] at hy
  rw [ezh, ezl, etzh, etzl] at hz
  rw [ekh, ekl, etkh, etkl] at hk
  rw [ekh, ekl] at hsg
  rw [exh, exl, eyh, eyl, ezh, ezl, ekh, ekl]
  clear exh exl eyh eyl ezh ezl ekh ekl etxh etxl etyh etyl etzh etzl etkh etkl
  have Hx := Lib.hid hx
  have Hy := Lib.hid hy
  have Hz := Lib.hid hz
  have Hk := Lib.hid hk
  have HSG := Lib.hid hsg
  clear hx hy hz hk hsg
  obtain ⟨w1, hw1⟩ : ∃ w1, (((((w.alloc (.cells #[.int .u64 xh, .int .u64 xl] 90)).alloc (.cells #[.int .u64 yh, .int .u64 yl] 90)).alloc (.cells #[.int .u64 zh, .int .u64 zl] 90)).alloc (.cells #[.int .u64 kh, .int .u64 kl] 90)).alloc (.cells #[.int .i64 0, .int .i64 0, .int .i64 0, .int .i64 0] 41)) = w1 := ⟨_, rfl⟩
  have hb1 : Below w.heap.size w w1 := by rw [← hw1]; exact (bw4' w _ _ _ _).alloc (bw4' w _ _ _ _).size _
  have kx : Blk w1 (w.heap.size) #[.int .u64 xh, .int .u64 xl] 90 := by rw [← hw1]; exact (((((Blk.new w _ _).alloc _).alloc _).alloc _).alloc _)
  have ky : Blk w1 (w.heap.size + 1) #[.int .u64 yh, .int .u64 yl] 90 := by rw [← hw1]; exact ((((Blk.new' _ _ _ (by simp)).alloc _).alloc _).alloc _)
  have kz : Blk w1 (w.heap.size + 1 + 1) #[.int .u64 zh, .int .u64 zl] 90 := by rw [← hw1]; exact (((Blk.new' _ _ _ (by simp)).alloc _).alloc _)
  have kk : Blk w1 (w.heap.size + 1 + 1 + 1) #[.int .u64 kh, .int .u64 kl] 90 := by rw [← hw1]; exact ((Blk.new' _ _ _ (by simp)).alloc _)
  have kR : Blk w1 (w.heap.size + 1 + 1 + 1 + 1) #[.int .i64 0, .int .i64 0, .int .i64 0, .int .i64 0] 41 := by rw [← hw1]; exact (Blk.new' _ _ _ (by simp))
  have ck0 := kk.cell (i := 0) rfl
  have ck1 := kk.cell (i := 1) rfl
  by_cases hfit : InV ⟨n0, n1, n2, n3⟩
  · have hlow : ∀ b W, RdSum W (some ⟨b, 0, none⟩) [X, Y, Z, K] → Calls Tryz.prog 79 #[.slice (some ⟨b, 0, none⟩) 4 4] W fun e w' => ∃ b', e = .returned (.tuple #[.slice (some ⟨b', 0, none⟩) 4 4, .bool true]) ∧ Blk w' b' #[.int .i64 n0, .int .i64 n1, .int .i64 n2, .int .i64 n3] 2 ∧ Below W.heap.size W w' := fun b W hR => by
      refine (hlow b W hR).mono fun e w' hh => ?_
      obtain ⟨hb, ⟨_, B, _, he, hB⟩ | ⟨hbad, _⟩⟩ := hh
      · exact ⟨B, he, hB, hb⟩
      · exact absurd hfit hbad
    have HLOW := Lib.hid hlow
    have hsm := fun W => small_any ⟨n0, n1, n2, n3⟩ W hfit
    obtain ⟨r, hr⟩ : ∃ y, smallV ⟨n0, n1, n2, n3⟩ = y := ⟨_, rfl⟩
    obtain ⟨E, hE⟩ : ∃ y, smallE ⟨n0, n1, n2, n3⟩ = y := ⟨_, rfl⟩
    rw [hr, hE] at hsm ⊢
    have HSM := Lib.hid hsm
    clear hlow hsm hr hE hfit
    go_enter Tryz.func117, Tryz.ntmps117
    go_wp2_with fail
    refine (HSG.out _).mono ?_
    rintro e' wy ⟨rfl, hba⟩
    have hb := hb1.trans (hba.mono hb1.size)
    have kx := kx.kept hba
    have ky := ky.kept hba
    have kz := kz.kept hba
    have kk := kk.kept hba
    have kR := kR.kept hba
    clear hba hw1 hb1 HSG
    go_upto_region 2 with fail
    go_cut [11, 12] from 16 to 31 (fun v11 v12 wx => ∃ b, v11 = .slice (some ⟨b, 0, none⟩) 4 4 ∧ Blk wx b #[.int .i64 n0, .int .i64 n1, .int .i64 n2, .int .i64 n3] 2 ∧ v12 = .bool true ∧ Below wy.heap.size wy wx)
    case first =>
      refine wp_region_kn' (fun ix => ix != 12 && ix != 13 && ix != 14 && ix != 15 && ix != 17) (fun ix => match ix with | 0 => .agg #[.int .u64 xh, .int .u64 xl] | 1 => .int .i64 s | 2 => .agg #[.int .u64 txh, .int .u64 txl] | 3 => .agg #[.int .u64 yh, .int .u64 yl] | 4 => .int .i64 s | 5 => .agg #[.int .u64 tyh, .int .u64 tyl] | 6 => .agg #[.int .u64 zh, .int .u64 zl] | 7 => .int .i64 s | 8 => .agg #[.int .u64 tzh, .int .u64 tzl] | 9 => .agg #[.int .u64 kh, .int .u64 kl] | 10 => .int .i64 s | 11 => .agg #[.int .u64 tkh, .int .u64 tkl] | 16 => .bool true | _ => .bool true) (fun ix v w => match ix with | 12 => ∃ b, v = .slice (some ⟨b, 0, none⟩) 4 4 ∧ RdSum w (some ⟨b, 0, none⟩) [X, Y, Z, K] | 13 => ∃ b, v = .tuple #[.slice (some ⟨b, 0, none⟩) 4 4, .bool true] ∧ Blk w b #[.int .i64 n0, .int .i64 n1, .int .i64 n2, .int .i64 n3] 2 | 14 => ∃ b, v = .tuple #[.slice (some ⟨b, 0, none⟩) 4 4, .bool true] ∧ Blk w b #[.int .i64 n0, .int .i64 n1, .int .i64 n2, .int .i64 n3] 2 | 15 => ∃ b, v = .slice (some ⟨b, 0, none⟩) 4 4 ∧ Blk w b #[.int .i64 n0, .int .i64 n1, .int .i64 n2, .int .i64 n3] 2 | _ => ∃ b, v = .slice (some ⟨b, 0, none⟩) 4 4 ∧ Blk w b #[.int .i64 n0, .int .i64 n1, .int .i64 n2, .int .i64 n3] 2) (by kernel_rfl) (by kernel_rfl) ?_ ?_ ?_
      · intro ix v w8 w9 hb h
        rcases ix with _ | _ | _ | _ | _ | _ | _ | _ | _ | _ | _ | _ | _ | _ | _ | _ | _ | _ | ix
        · obtain ⟨b, e, h⟩ := h; exact ⟨b, e, h.kept hb⟩
        · obtain ⟨b, e, h⟩ := h; exact ⟨b, e, h.kept hb⟩
        · obtain ⟨b, e, h⟩ := h; exact ⟨b, e, h.kept hb⟩
        · obtain ⟨b, e, h⟩ := h; exact ⟨b, e, h.kept hb⟩
        · obtain ⟨b, e, h⟩ := h; exact ⟨b, e, h.kept hb⟩
        · obtain ⟨b, e, h⟩ := h; exact ⟨b, e, h.kept hb⟩
        · obtain ⟨b, e, h⟩ := h; exact ⟨b, e, h.kept hb⟩
        · obtain ⟨b, e, h⟩ := h; exact ⟨b, e, h.kept hb⟩
        · obtain ⟨b, e, h⟩ := h; exact ⟨b, e, h.kept hb⟩
        · obtain ⟨b, e, h⟩ := h; exact ⟨b, e, h.kept hb⟩
        · obtain ⟨b, e, h⟩ := h; exact ⟨b, e, h.kept hb⟩
        · obtain ⟨b, e, h⟩ := h; exact ⟨b, e, h.kept hb⟩
        · obtain ⟨b, e, h⟩ := h; exact ⟨b, e, h.below hb⟩
        · obtain ⟨b, e, h⟩ := h; exact ⟨b, e, h.kept hb⟩
        · obtain ⟨b, e, h⟩ := h; exact ⟨b, e, h.kept hb⟩
        · obtain ⟨b, e, h⟩ := h; exact ⟨b, e, h.kept hb⟩
        · obtain ⟨b, e, h⟩ := h; exact ⟨b, e, h.kept hb⟩
        · obtain ⟨b, e, h⟩ := h; exact ⟨b, e, h.kept hb⟩
        · obtain ⟨b, e, h⟩ := h; exact ⟨b, e, h.kept hb⟩
      · rintro ix hx f ww hS hd
        have kx_ := kx.kept hS
        have ky_ := ky.kept hS
        have kz_ := kz.kept hS
        have kk_ := kk.kept hS
        have cx0 := kx_.cell (i := 0) rfl
        have cx1 := kx_.cell (i := 1) rfl
        have cy0 := ky_.cell (i := 0) rfl
        have cy1 := ky_.cell (i := 1) rfl
        have cz0 := kz_.cell (i := 0) rfl
        have cz1 := kz_.cell (i := 1) rfl
        have ck0 := kk_.cell (i := 0) rfl
        have ck1 := kk_.cell (i := 1) rfl
        rcases ix with _ | _ | _ | _ | _ | _ | _ | _ | _ | _ | _ | _ | _ | _ | _ | _ | _ | _ | _ | ix
        · refine wpOp_list rfl ?_
          simp only [tmOf, putAll, List.map_cons, List.map_nil, List.setIfInBounds_toArray, List.set_cons_zero, List.set_cons_succ]
          go_wp2
          refine ⟨.agg #[.int .u64 xh, .int .u64 xl], ?_⟩
          simp [upd, Below.refl]
        · refine wpOp_list rfl ?_
          simp only [tmOf, putAll, List.map_cons, List.map_nil, List.setIfInBounds_toArray, List.set_cons_zero, List.set_cons_succ]
          go_wp2
          refine ⟨.int .i64 s, ?_⟩
          simp [upd, Below.refl]
        · have g0 : f 0 = .agg #[.int .u64 xh, .int .u64 xl] := hd 0 (by kernel_rfl)
          have g1 : f 1 = .int .i64 s := hd 1 (by kernel_rfl)
          refine wpOp_list rfl ?_
          simp only [tmOf, putAll, List.map_cons, List.map_nil, List.setIfInBounds_toArray, List.set_cons_zero, List.set_cons_succ]
          go_wp2_with fail
          refine (Hx.out _).mono ?_
          rintro e' wf ⟨rfl, hbf⟩
          go_wp2_with fail
          try refine ⟨.agg #[.int .u64 txh, .int .u64 txl], ?_⟩
          simp [upd, g0, g1, hbf]
        · refine wpOp_list rfl ?_
          simp only [tmOf, putAll, List.map_cons, List.map_nil, List.setIfInBounds_toArray, List.set_cons_zero, List.set_cons_succ]
          go_wp2
          refine ⟨.agg #[.int .u64 yh, .int .u64 yl], ?_⟩
          simp [upd, Below.refl]
        · refine wpOp_list rfl ?_
          simp only [tmOf, putAll, List.map_cons, List.map_nil, List.setIfInBounds_toArray, List.set_cons_zero, List.set_cons_succ]
          go_wp2
          refine ⟨.int .i64 s, ?_⟩
          simp [upd, Below.refl]
        · have g3 : f 3 = .agg #[.int .u64 yh, .int .u64 yl] := hd 3 (by kernel_rfl)
          have g4 : f 4 = .int .i64 s := hd 4 (by kernel_rfl)
          refine wpOp_list rfl ?_
          simp only [tmOf, putAll, List.map_cons, List.map_nil, List.setIfInBounds_toArray, List.set_cons_zero, List.set_cons_succ]
          go_wp2_with fail
          refine (Hy.out _).mono ?_
          rintro e' wf ⟨rfl, hbf⟩
          go_wp2_with fail
          try refine ⟨.agg #[.int .u64 tyh, .int .u64 tyl], ?_⟩
          simp [upd, g3, g4, hbf]
        · refine wpOp_list rfl ?_
          simp only [tmOf, putAll, List.map_cons, List.map_nil, List.setIfInBounds_toArray, List.set_cons_zero, List.set_cons_succ]
          go_wp2
          refine ⟨.agg #[.int .u64 zh, .int .u64 zl], ?_⟩
          simp [upd, Below.refl]
        · refine wpOp_list rfl ?_
          simp only [tmOf, putAll, List.map_cons, List.map_nil, List.setIfInBounds_toArray, List.set_cons_zero, List.set_cons_succ]
          go_wp2
          refine ⟨.int .i64 s, ?_⟩
          simp [upd, Below.refl]
        · have g6 : f 6 = .agg #[.int .u64 zh, .int .u64 zl] := hd 6 (by kernel_rfl)
          have g7 : f 7 = .int .i64 s := hd 7 (by kernel_rfl)
          refine wpOp_list rfl ?_
          simp only [tmOf, putAll, List.map_cons, List.map_nil, List.setIfInBounds_toArray, List.set_cons_zero, List.set_cons_succ]
          go_wp2_with fail
          refine (Hz.out _).mono ?_
          rintro e' wf ⟨rfl, hbf⟩
          go_wp2_with fail
          try refine ⟨.agg #[.int .u64 tzh, .int .u64 tzl], ?_⟩
          simp [upd, g6, g7, hbf]
        · refine wpOp_list rfl ?_
          simp only [tmOf, putAll, List.map_cons, List.map_nil, List.setIfInBounds_toArray, List.set_cons_zero, List.set_cons_succ]
          go_wp2
          refine ⟨.agg #[.int .u64 kh, .int .u64 kl], ?_⟩
          simp [upd, Below.refl]
        · refine wpOp_list rfl ?_
          simp only [tmOf, putAll, List.map_cons, List.map_nil, List.setIfInBounds_toArray, List.set_cons_zero, List.set_cons_succ]
          go_wp2
          refine ⟨.int .i64 s, ?_⟩
          simp [upd, Below.refl]
        · have g9 : f 9 = .agg #[.int .u64 kh, .int .u64 kl] := hd 9 (by kernel_rfl)
          have g10 : f 10 = .int .i64 s := hd 10 (by kernel_rfl)
          refine wpOp_list rfl ?_
          simp only [tmOf, putAll, List.map_cons, List.map_nil, List.setIfInBounds_toArray, List.set_cons_zero, List.set_cons_succ]
          go_wp2_with fail
          refine (Hk.out _).mono ?_
          rintro e' wf ⟨rfl, hbf⟩
          go_wp2_with fail
          try refine ⟨.agg #[.int .u64 tkh, .int .u64 tkl], ?_⟩
          simp [upd, g9, g10, hbf]
        · have g2 : f 2 = .agg #[.int .u64 txh, .int .u64 txl] := hd 2 (by kernel_rfl)
          have g5 : f 5 = .agg #[.int .u64 tyh, .int .u64 tyl] := hd 5 (by kernel_rfl)
          have g8 : f 8 = .agg #[.int .u64 tzh, .int .u64 tzl] := hd 8 (by kernel_rfl)
          have g11 : f 11 = .agg #[.int .u64 tkh, .int .u64 tkl] := hd 11 (by kernel_rfl)
          refine wpOp_list rfl ?_
          simp only [tmOf, putAll, List.map_cons, List.map_nil, List.setIfInBounds_toArray, List.set_cons_zero, List.set_cons_succ]
          go_wp2
          exact ⟨.slice (some ⟨ww.heap.size, 0, none⟩) 4 4, by simp [upd, g2, g5, g8, g11], ⟨_, rfl, sumsK4 ww txh txl tyh tyl tzh tzl tkh tkl X Y Z K HW.out⟩, (Below.refl _ ww).alloc (Nat.le_refl _) _⟩
        · obtain ⟨b28, g12, hR28⟩ : ∃ b, f 12 = .slice (some ⟨b, 0, none⟩) 4 4 ∧ RdSum ww (some ⟨b, 0, none⟩) [X, Y, Z, K] := hd 12 (by kernel_rfl)
          refine wpOp_list rfl ?_
          simp only [tmOf, putAll, List.map_cons, List.map_nil, List.setIfInBounds_toArray, List.set_cons_zero, List.set_cons_succ]
          have hlow := HLOW.out b28 ww hR28
          have HL := Lib.hid hlow
          clear hlow hR28
          go_wp2_with fail
          refine HL.out.mono ?_
          rintro e' wf ⟨b, rfl, hB, hbf⟩
          go_wp2_with fail
          first
            | exact ⟨.tuple #[.slice (some ⟨b, 0, none⟩) 4 4, .bool true], by simp [upd, g12], ⟨b, rfl, hB⟩, hbf⟩
            | exact ⟨.tuple #[.slice (some ⟨b, 0, none⟩) 4 4, .bool true], by simp [upd, g12], b, rfl, hB⟩
        · obtain ⟨b29, g13, hB29⟩ : ∃ b, f 13 = .tuple #[.slice (some ⟨b, 0, none⟩) 4 4, .bool true] ∧ Blk ww b #[.int .i64 n0, .int .i64 n1, .int .i64 n2, .int .i64 n3] 2 := hd 13 (by kernel_rfl)
          refine wpOp_list rfl ?_
          simp only [tmOf, putAll, List.map_cons, List.map_nil, List.setIfInBounds_toArray, List.set_cons_zero, List.set_cons_succ]
          go_wp2
          exact ⟨.tuple #[.slice (some ⟨b29, 0, none⟩) 4 4, .bool true], by simp [upd, g13], ⟨b29, rfl, hB29⟩, Below.refl _ _⟩
        · obtain ⟨b15, g14, hB15⟩ : ∃ b, f 14 = .tuple #[.slice (some ⟨b, 0, none⟩) 4 4, .bool true] ∧ Blk ww b #[.int .i64 n0, .int .i64 n1, .int .i64 n2, .int .i64 n3] 2 := hd 14 (by kernel_rfl)
          refine wpOp_list rfl ?_
          simp only [tmOf, putAll, List.map_cons, List.map_nil, List.setIfInBounds_toArray, List.set_cons_zero, List.set_cons_succ]
          go_wp2
          exact ⟨.slice (some ⟨b15, 0, none⟩) 4 4, by simp [upd, g14], ⟨b15, rfl, hB15⟩, Below.refl _ _⟩
        · obtain ⟨b15, g14, hB15⟩ : ∃ b, f 14 = .tuple #[.slice (some ⟨b, 0, none⟩) 4 4, .bool true] ∧ Blk ww b #[.int .i64 n0, .int .i64 n1, .int .i64 n2, .int .i64 n3] 2 := hd 14 (by kernel_rfl)
          refine wpOp_list rfl ?_
          simp only [tmOf, putAll, List.map_cons, List.map_nil, List.setIfInBounds_toArray, List.set_cons_zero, List.set_cons_succ]
          go_wp2
          refine ⟨.bool true, ?_⟩
          simp [upd, g14, Below.refl]
        · obtain ⟨b30, g15, hB30⟩ : ∃ b, f 15 = .slice (some ⟨b, 0, none⟩) 4 4 ∧ Blk ww b #[.int .i64 n0, .int .i64 n1, .int .i64 n2, .int .i64 n3] 2 := hd 15 (by kernel_rfl)
          refine wpOp_list rfl ?_
          simp only [tmOf, putAll, List.map_cons, List.map_nil, List.setIfInBounds_toArray, List.set_cons_zero, List.set_cons_succ]
          go_wp2
          exact ⟨.slice (some ⟨b30, 0, none⟩) 4 4, by simp [upd, g15], ⟨b30, rfl, hB30⟩, Below.refl _ _⟩
        · have g16 : f 16 = .bool true := hd 16 (by kernel_rfl)
          refine wpOp_list rfl ?_
          simp only [tmOf, putAll, List.map_cons, List.map_nil, List.setIfInBounds_toArray, List.set_cons_zero, List.set_cons_succ]
          go_wp2
          refine ⟨.bool true, ?_⟩
          simp [upd, g16, Below.refl]
        · simp only [List.length_cons, List.length_nil] at hx; omega
      · rintro f ww hS hd
        have G11 : ∃ b, (f 17) = .slice (some ⟨b, 0, none⟩) 4 4 ∧ Blk ww b #[.int .i64 n0, .int .i64 n1, .int .i64 n2, .int .i64 n3] 2 := hd 17 (by decide)
        have G12 : f 18 = .bool true := hd 18 (by decide)
        simp only [tmOf, putAll, List.map_cons, List.map_nil, List.setIfInBounds_toArray, List.set_cons_zero, List.set_cons_succ]
        refine ‹∀ (a' : Act) (w' : World), Met _ a' w' → _› _ _ ?_
        go_meet
        case rel => exact (by obtain ⟨b, e, h⟩ := G11; exact ⟨b, e, h, G12, hS⟩)
    case rest =>
    obtain ⟨G, rfl, kG, rfl, hbz⟩ := hcut
    have kR := kR.kept hbz
    have hb := hb.trans (hbz.mono hb.size)
    clear hbz kx ky kz kk Hx Hy Hz Hk HW HLOW
    generalize wc = wz at *
    go_upto_region 5 with fail
    refine wp_region_pure 16 (fun ix => match ix with | 0 => .slice (some ⟨G, 0, none⟩) 4 4 | 1 => .pointer (some ⟨G, 0, none⟩) | 2 => .int .i64 n0 | 3 => .slice (some ⟨G, 0, none⟩) 4 4 | 4 => .pointer (some ⟨G, 1, none⟩) | 5 => .int .i64 n1 | 6 => .slice (some ⟨G, 0, none⟩) 4 4 | 7 => .pointer (some ⟨G, 2, none⟩) | 8 => .int .i64 n2 | 9 => .slice (some ⟨G, 0, none⟩) 4 4 | 10 => .pointer (some ⟨G, 3, none⟩) | 11 => .int .i64 n3 | 12 => .agg #[.int .i64 n0, .int .i64 n1, .int .i64 n2, .int .i64 n3] | 13 => .tuple #[.agg #[.int .i64 r.a, .int .i64 r.b, .int .i64 r.c, .int .i64 r.d], .int .i64 E] | 14 => .agg #[.int .i64 r.a, .int .i64 r.b, .int .i64 r.c, .int .i64 r.d] | _ => .int .i64 E) (by kernel_rfl) (by kernel_rfl) (by kernel_rfl) (by decide) ?_ ?_
    · rintro ix hx f ww hS hd
      have kg := kG.kept hS
      have a0_ := kg.cell (i := 0) rfl
      have a1_ := kg.cell (i := 1) rfl
      have a2_ := kg.cell (i := 2) rfl
      have a3_ := kg.cell (i := 3) rfl
      rcases ix with _ | _ | _ | _ | _ | _ | _ | _ | _ | _ | _ | _ | _ | _ | _ | _ | ix
      · refine wpOp_list rfl ?_
        simp only [tmOf, putAll, List.map_cons, List.map_nil, List.setIfInBounds_toArray, List.set_cons_zero, List.set_cons_succ]
        go_wp2
        simp [upd, Below.refl]
      · have g0 : f 0 = .slice (some ⟨G, 0, none⟩) 4 4 := hd 0 (by kernel_rfl)
        refine wpOp_list rfl ?_
        simp only [tmOf, putAll, List.map_cons, List.map_nil, List.setIfInBounds_toArray, List.set_cons_zero, List.set_cons_succ]
        go_wp2
        simp [upd, g0, Below.refl]
      · have g1 : f 1 = .pointer (some ⟨G, 0, none⟩) := hd 1 (by kernel_rfl)
        refine wpOp_list rfl ?_
        simp only [tmOf, putAll, List.map_cons, List.map_nil, List.setIfInBounds_toArray, List.set_cons_zero, List.set_cons_succ]
        go_wp2
        simp [upd, g1, Below.refl]
      · refine wpOp_list rfl ?_
        simp only [tmOf, putAll, List.map_cons, List.map_nil, List.setIfInBounds_toArray, List.set_cons_zero, List.set_cons_succ]
        go_wp2
        simp [upd, Below.refl]
      · have g3 : f 3 = .slice (some ⟨G, 0, none⟩) 4 4 := hd 3 (by kernel_rfl)
        refine wpOp_list rfl ?_
        simp only [tmOf, putAll, List.map_cons, List.map_nil, List.setIfInBounds_toArray, List.set_cons_zero, List.set_cons_succ]
        go_wp2
        simp [upd, g3, Below.refl]
      · have g4 : f 4 = .pointer (some ⟨G, 1, none⟩) := hd 4 (by kernel_rfl)
        refine wpOp_list rfl ?_
        simp only [tmOf, putAll, List.map_cons, List.map_nil, List.setIfInBounds_toArray, List.set_cons_zero, List.set_cons_succ]
        go_wp2
        simp [upd, g4, Below.refl]
      · refine wpOp_list rfl ?_
        simp only [tmOf, putAll, List.map_cons, List.map_nil, List.setIfInBounds_toArray, List.set_cons_zero, List.set_cons_succ]
        go_wp2
        simp [upd, Below.refl]
      · have g6 : f 6 = .slice (some ⟨G, 0, none⟩) 4 4 := hd 6 (by kernel_rfl)
        refine wpOp_list rfl ?_
        simp only [tmOf, putAll, List.map_cons, List.map_nil, List.setIfInBounds_toArray, List.set_cons_zero, List.set_cons_succ]
        go_wp2
        simp [upd, g6, Below.refl]
      · have g7 : f 7 = .pointer (some ⟨G, 2, none⟩) := hd 7 (by kernel_rfl)
        refine wpOp_list rfl ?_
        simp only [tmOf, putAll, List.map_cons, List.map_nil, List.setIfInBounds_toArray, List.set_cons_zero, List.set_cons_succ]
        go_wp2
        simp [upd, g7, Below.refl]
      · refine wpOp_list rfl ?_
        simp only [tmOf, putAll, List.map_cons, List.map_nil, List.setIfInBounds_toArray, List.set_cons_zero, List.set_cons_succ]
        go_wp2
        simp [upd, Below.refl]
      · have g9 : f 9 = .slice (some ⟨G, 0, none⟩) 4 4 := hd 9 (by kernel_rfl)
        refine wpOp_list rfl ?_
        simp only [tmOf, putAll, List.map_cons, List.map_nil, List.setIfInBounds_toArray, List.set_cons_zero, List.set_cons_succ]
        go_wp2
        simp [upd, g9, Below.refl]
      · have g10 : f 10 = .pointer (some ⟨G, 3, none⟩) := hd 10 (by kernel_rfl)
        refine wpOp_list rfl ?_
        simp only [tmOf, putAll, List.map_cons, List.map_nil, List.setIfInBounds_toArray, List.set_cons_zero, List.set_cons_succ]
        go_wp2
        simp [upd, g10, Below.refl]
      · have g2 : f 2 = .int .i64 n0 := hd 2 (by kernel_rfl)
        have g5 : f 5 = .int .i64 n1 := hd 5 (by kernel_rfl)
        have g8 : f 8 = .int .i64 n2 := hd 8 (by kernel_rfl)
        have g11 : f 11 = .int .i64 n3 := hd 11 (by kernel_rfl)
        refine wpOp_list rfl ?_
        simp only [tmOf, putAll, List.map_cons, List.map_nil, List.setIfInBounds_toArray, List.set_cons_zero, List.set_cons_succ]
        go_wp2
        simp [upd, g2, g5, g8, g11, Below.refl]
      · have g12 : f 12 = .agg #[.int .i64 n0, .int .i64 n1, .int .i64 n2, .int .i64 n3] := hd 12 (by kernel_rfl)
        refine wpOp_list rfl ?_
        simp only [tmOf, putAll, List.map_cons, List.map_nil, List.setIfInBounds_toArray, List.set_cons_zero, List.set_cons_succ]
        go_wp2_with fail
        refine (HSM.out _).mono ?_
        rintro e' wf ⟨rfl, hbf⟩
        go_wp2_with fail
        simp [upd, g12, hbf]
      · have g13 : f 13 = .tuple #[.agg #[.int .i64 r.a, .int .i64 r.b, .int .i64 r.c, .int .i64 r.d], .int .i64 E] := hd 13 (by kernel_rfl)
        refine wpOp_list rfl ?_
        simp only [tmOf, putAll, List.map_cons, List.map_nil, List.setIfInBounds_toArray, List.set_cons_zero, List.set_cons_succ]
        go_wp2
        simp [upd, g13, Below.refl]
      · have g13 : f 13 = .tuple #[.agg #[.int .i64 r.a, .int .i64 r.b, .int .i64 r.c, .int .i64 r.d], .int .i64 E] := hd 13 (by kernel_rfl)
        refine wpOp_list rfl ?_
        simp only [tmOf, putAll, List.map_cons, List.map_nil, List.setIfInBounds_toArray, List.set_cons_zero, List.set_cons_succ]
        go_wp2
        simp [upd, g13, Below.refl]
      · omega
    · rintro f ww hS hd
      have kR := kR.kept hS
      have hb := hb.trans (hS.mono hb.size)
      have d0 := kR.cell (i := 0) rfl
      have q0 := kR.frozen 0
      have d1 := kR.cell (i := 1) rfl
      have q1 := kR.frozen 1
      have d2 := kR.cell (i := 2) rfl
      have q2 := kR.frozen 2
      have d3 := kR.cell (i := 3) rfl
      have q3 := kR.frozen 3
      have g14 : f 14 = .agg #[.int .i64 r.a, .int .i64 r.b, .int .i64 r.c, .int .i64 r.d] := hd 14 (by decide)
      have g15 : f 15 = .int .i64 E := hd 15 (by decide)
      simp only [seqW, tmOf, putAll, List.map_cons, List.map_nil, List.setIfInBounds_toArray, List.set_cons_zero, List.set_cons_succ, List.length_cons, List.length_nil]
      refine wpOp_list rfl ?_
      go_wp2
      refine wpOp_list rfl ?_
      go_wp2
      have L := Blk.put4 kR (.int .i64 r.a) (.int .i64 r.b) (.int .i64 r.c) (.int .i64 r.d)
      have z0 := L.cell (i := 0) rfl
      have z1 := L.cell (i := 1) rfl
      have z2 := L.cell (i := 2) rfl
      have z3 := L.cell (i := 3) rfl
      exact bodyPost_ret (v := .tuple #[.agg #[.int .i64 r.a, .int .i64 r.b, .int .i64 r.c, .int .i64 r.d], .int .i64 E]) (by simp [results, Tryz.results117, go_sem, z0, z1, z2, z3]) rfl ⟨rfl, (((hb.setCell (by simp only; omega) _).setCell (by simp only; omega) _).setCell (by simp only; omega) _).setCell (by simp only; omega) _⟩
  · have hlow : ∀ b W, RdSum W (some ⟨b, 0, none⟩) [X, Y, Z, K] → Calls Tryz.prog 79 #[.slice (some ⟨b, 0, none⟩) 4 4] W fun e w' => e = .returned (.tuple #[.slice none 0 0, .bool false]) ∧ Below W.heap.size W w' := fun b W hR => by
      refine (hlow b W hR).mono fun e w' hh => ?_
      obtain ⟨hb, ⟨hgood, _⟩ | ⟨_, he⟩⟩ := hh
      · exact absurd hgood hfit
      · exact ⟨he, hb⟩
    have HLOW := Lib.hid hlow
    have hns : ¬ SoundQ ⟨n0, n1, n2, n3⟩ := fun h => hfit (soundQ_in h)
    have hR : Ending.returned (.tuple #[.agg #[.int .i64 (smallV ⟨n0, n1, n2, n3⟩).a, .int .i64 (smallV ⟨n0, n1, n2, n3⟩).b, .int .i64 (smallV ⟨n0, n1, n2, n3⟩).c, .int .i64 (smallV ⟨n0, n1, n2, n3⟩).d], .int .i64 (smallE ⟨n0, n1, n2, n3⟩)]) = Ending.returned (.tuple #[.agg #[.int .i64 0, .int .i64 0, .int .i64 0, .int .i64 0], .int .i64 2]) := by
      unfold smallV smallE; rw [if_neg hns, if_neg hns]
    rw [hR]
    clear hlow hfit hns hR
    go_enter Tryz.func117, Tryz.ntmps117
    go_wp2_with fail
    refine (HSG.out _).mono ?_
    rintro e' wy ⟨rfl, hba⟩
    have hb := hb1.trans (hba.mono hb1.size)
    have kx := kx.kept hba
    have ky := ky.kept hba
    have kz := kz.kept hba
    have kk := kk.kept hba
    have kR := kR.kept hba
    clear hba hw1 hb1 HSG
    go_upto_region 2 with fail
    go_cut [11, 12] from 16 to 31 (fun v11 v12 wx => v11 = .slice none 0 0 ∧ v12 = .bool false ∧ Below wy.heap.size wy wx)
    case first =>
      refine wp_region_kn' (fun ix => ix != 12) (fun ix => match ix with | 0 => .agg #[.int .u64 xh, .int .u64 xl] | 1 => .int .i64 s | 2 => .agg #[.int .u64 txh, .int .u64 txl] | 3 => .agg #[.int .u64 yh, .int .u64 yl] | 4 => .int .i64 s | 5 => .agg #[.int .u64 tyh, .int .u64 tyl] | 6 => .agg #[.int .u64 zh, .int .u64 zl] | 7 => .int .i64 s | 8 => .agg #[.int .u64 tzh, .int .u64 tzl] | 9 => .agg #[.int .u64 kh, .int .u64 kl] | 10 => .int .i64 s | 11 => .agg #[.int .u64 tkh, .int .u64 tkl] | 13 => .tuple #[.slice none 0 0, .bool false] | 14 => .tuple #[.slice none 0 0, .bool false] | 15 => .slice none 0 0 | 16 => .bool false | 17 => .slice none 0 0 | _ => .bool false) (fun ix v w => match ix with  | _ => ∃ b, v = .slice (some ⟨b, 0, none⟩) 4 4 ∧ RdSum w (some ⟨b, 0, none⟩) [X, Y, Z, K]) (by kernel_rfl) (by kernel_rfl) ?_ ?_ ?_
      · intro ix v w8 w9 hb h
        rcases ix with _ | _ | _ | _ | _ | _ | _ | _ | _ | _ | _ | _ | _ | ix
        · obtain ⟨b, e, h⟩ := h; exact ⟨b, e, h.below hb⟩
        · obtain ⟨b, e, h⟩ := h; exact ⟨b, e, h.below hb⟩
        · obtain ⟨b, e, h⟩ := h; exact ⟨b, e, h.below hb⟩
        · obtain ⟨b, e, h⟩ := h; exact ⟨b, e, h.below hb⟩
        · obtain ⟨b, e, h⟩ := h; exact ⟨b, e, h.below hb⟩
        · obtain ⟨b, e, h⟩ := h; exact ⟨b, e, h.below hb⟩
        · obtain ⟨b, e, h⟩ := h; exact ⟨b, e, h.below hb⟩
        · obtain ⟨b, e, h⟩ := h; exact ⟨b, e, h.below hb⟩
        · obtain ⟨b, e, h⟩ := h; exact ⟨b, e, h.below hb⟩
        · obtain ⟨b, e, h⟩ := h; exact ⟨b, e, h.below hb⟩
        · obtain ⟨b, e, h⟩ := h; exact ⟨b, e, h.below hb⟩
        · obtain ⟨b, e, h⟩ := h; exact ⟨b, e, h.below hb⟩
        · obtain ⟨b, e, h⟩ := h; exact ⟨b, e, h.below hb⟩
        · obtain ⟨b, e, h⟩ := h; exact ⟨b, e, h.below hb⟩
      · rintro ix hx f ww hS hd
        have kx_ := kx.kept hS
        have ky_ := ky.kept hS
        have kz_ := kz.kept hS
        have kk_ := kk.kept hS
        have cx0 := kx_.cell (i := 0) rfl
        have cx1 := kx_.cell (i := 1) rfl
        have cy0 := ky_.cell (i := 0) rfl
        have cy1 := ky_.cell (i := 1) rfl
        have cz0 := kz_.cell (i := 0) rfl
        have cz1 := kz_.cell (i := 1) rfl
        have ck0 := kk_.cell (i := 0) rfl
        have ck1 := kk_.cell (i := 1) rfl
        rcases ix with _ | _ | _ | _ | _ | _ | _ | _ | _ | _ | _ | _ | _ | _ | _ | _ | _ | _ | _ | ix
        · refine wpOp_list rfl ?_
          simp only [tmOf, putAll, List.map_cons, List.map_nil, List.setIfInBounds_toArray, List.set_cons_zero, List.set_cons_succ]
          go_wp2
          refine ⟨.agg #[.int .u64 xh, .int .u64 xl], ?_⟩
          simp [upd, Below.refl]
        · refine wpOp_list rfl ?_
          simp only [tmOf, putAll, List.map_cons, List.map_nil, List.setIfInBounds_toArray, List.set_cons_zero, List.set_cons_succ]
          go_wp2
          refine ⟨.int .i64 s, ?_⟩
          simp [upd, Below.refl]
        · have g0 : f 0 = .agg #[.int .u64 xh, .int .u64 xl] := hd 0 (by kernel_rfl)
          have g1 : f 1 = .int .i64 s := hd 1 (by kernel_rfl)
          refine wpOp_list rfl ?_
          simp only [tmOf, putAll, List.map_cons, List.map_nil, List.setIfInBounds_toArray, List.set_cons_zero, List.set_cons_succ]
          go_wp2_with fail
          refine (Hx.out _).mono ?_
          rintro e' wf ⟨rfl, hbf⟩
          go_wp2_with fail
          try refine ⟨.agg #[.int .u64 txh, .int .u64 txl], ?_⟩
          simp [upd, g0, g1, hbf]
        · refine wpOp_list rfl ?_
          simp only [tmOf, putAll, List.map_cons, List.map_nil, List.setIfInBounds_toArray, List.set_cons_zero, List.set_cons_succ]
          go_wp2
          refine ⟨.agg #[.int .u64 yh, .int .u64 yl], ?_⟩
          simp [upd, Below.refl]
        · refine wpOp_list rfl ?_
          simp only [tmOf, putAll, List.map_cons, List.map_nil, List.setIfInBounds_toArray, List.set_cons_zero, List.set_cons_succ]
          go_wp2
          refine ⟨.int .i64 s, ?_⟩
          simp [upd, Below.refl]
        · have g3 : f 3 = .agg #[.int .u64 yh, .int .u64 yl] := hd 3 (by kernel_rfl)
          have g4 : f 4 = .int .i64 s := hd 4 (by kernel_rfl)
          refine wpOp_list rfl ?_
          simp only [tmOf, putAll, List.map_cons, List.map_nil, List.setIfInBounds_toArray, List.set_cons_zero, List.set_cons_succ]
          go_wp2_with fail
          refine (Hy.out _).mono ?_
          rintro e' wf ⟨rfl, hbf⟩
          go_wp2_with fail
          try refine ⟨.agg #[.int .u64 tyh, .int .u64 tyl], ?_⟩
          simp [upd, g3, g4, hbf]
        · refine wpOp_list rfl ?_
          simp only [tmOf, putAll, List.map_cons, List.map_nil, List.setIfInBounds_toArray, List.set_cons_zero, List.set_cons_succ]
          go_wp2
          refine ⟨.agg #[.int .u64 zh, .int .u64 zl], ?_⟩
          simp [upd, Below.refl]
        · refine wpOp_list rfl ?_
          simp only [tmOf, putAll, List.map_cons, List.map_nil, List.setIfInBounds_toArray, List.set_cons_zero, List.set_cons_succ]
          go_wp2
          refine ⟨.int .i64 s, ?_⟩
          simp [upd, Below.refl]
        · have g6 : f 6 = .agg #[.int .u64 zh, .int .u64 zl] := hd 6 (by kernel_rfl)
          have g7 : f 7 = .int .i64 s := hd 7 (by kernel_rfl)
          refine wpOp_list rfl ?_
          simp only [tmOf, putAll, List.map_cons, List.map_nil, List.setIfInBounds_toArray, List.set_cons_zero, List.set_cons_succ]
          go_wp2_with fail
          refine (Hz.out _).mono ?_
          rintro e' wf ⟨rfl, hbf⟩
          go_wp2_with fail
          try refine ⟨.agg #[.int .u64 tzh, .int .u64 tzl], ?_⟩
          simp [upd, g6, g7, hbf]
        · refine wpOp_list rfl ?_
          simp only [tmOf, putAll, List.map_cons, List.map_nil, List.setIfInBounds_toArray, List.set_cons_zero, List.set_cons_succ]
          go_wp2
          refine ⟨.agg #[.int .u64 kh, .int .u64 kl], ?_⟩
          simp [upd, Below.refl]
        · refine wpOp_list rfl ?_
          simp only [tmOf, putAll, List.map_cons, List.map_nil, List.setIfInBounds_toArray, List.set_cons_zero, List.set_cons_succ]
          go_wp2
          refine ⟨.int .i64 s, ?_⟩
          simp [upd, Below.refl]
        · have g9 : f 9 = .agg #[.int .u64 kh, .int .u64 kl] := hd 9 (by kernel_rfl)
          have g10 : f 10 = .int .i64 s := hd 10 (by kernel_rfl)
          refine wpOp_list rfl ?_
          simp only [tmOf, putAll, List.map_cons, List.map_nil, List.setIfInBounds_toArray, List.set_cons_zero, List.set_cons_succ]
          go_wp2_with fail
          refine (Hk.out _).mono ?_
          rintro e' wf ⟨rfl, hbf⟩
          go_wp2_with fail
          try refine ⟨.agg #[.int .u64 tkh, .int .u64 tkl], ?_⟩
          simp [upd, g9, g10, hbf]
        · have g2 : f 2 = .agg #[.int .u64 txh, .int .u64 txl] := hd 2 (by kernel_rfl)
          have g5 : f 5 = .agg #[.int .u64 tyh, .int .u64 tyl] := hd 5 (by kernel_rfl)
          have g8 : f 8 = .agg #[.int .u64 tzh, .int .u64 tzl] := hd 8 (by kernel_rfl)
          have g11 : f 11 = .agg #[.int .u64 tkh, .int .u64 tkl] := hd 11 (by kernel_rfl)
          refine wpOp_list rfl ?_
          simp only [tmOf, putAll, List.map_cons, List.map_nil, List.setIfInBounds_toArray, List.set_cons_zero, List.set_cons_succ]
          go_wp2
          exact ⟨.slice (some ⟨ww.heap.size, 0, none⟩) 4 4, by simp [upd, g2, g5, g8, g11], ⟨_, rfl, sumsK4 ww txh txl tyh tyl tzh tzl tkh tkl X Y Z K HW.out⟩, (Below.refl _ ww).alloc (Nat.le_refl _) _⟩
        · obtain ⟨b28, g12, hR28⟩ : ∃ b, f 12 = .slice (some ⟨b, 0, none⟩) 4 4 ∧ RdSum ww (some ⟨b, 0, none⟩) [X, Y, Z, K] := hd 12 (by kernel_rfl)
          refine wpOp_list rfl ?_
          simp only [tmOf, putAll, List.map_cons, List.map_nil, List.setIfInBounds_toArray, List.set_cons_zero, List.set_cons_succ]
          have hlow := HLOW.out b28 ww hR28
          have HL := Lib.hid hlow
          clear hlow hR28
          go_wp2_with fail
          refine HL.out.mono ?_
          rintro e' wf ⟨rfl, hbf⟩
          go_wp2_with fail
          try refine ⟨.tuple #[.slice none 0 0, .bool false], ?_⟩
          simp [upd, g12, hbf]
        · have g13 : f 13 = .tuple #[.slice none 0 0, .bool false] := hd 13 (by kernel_rfl)
          refine wpOp_list rfl ?_
          simp only [tmOf, putAll, List.map_cons, List.map_nil, List.setIfInBounds_toArray, List.set_cons_zero, List.set_cons_succ]
          go_wp2
          refine ⟨.tuple #[.slice none 0 0, .bool false], ?_⟩
          simp [upd, g13, Below.refl]
        · have g14 : f 14 = .tuple #[.slice none 0 0, .bool false] := hd 14 (by kernel_rfl)
          refine wpOp_list rfl ?_
          simp only [tmOf, putAll, List.map_cons, List.map_nil, List.setIfInBounds_toArray, List.set_cons_zero, List.set_cons_succ]
          go_wp2
          refine ⟨.slice none 0 0, ?_⟩
          simp [upd, g14, Below.refl]
        · have g14 : f 14 = .tuple #[.slice none 0 0, .bool false] := hd 14 (by kernel_rfl)
          refine wpOp_list rfl ?_
          simp only [tmOf, putAll, List.map_cons, List.map_nil, List.setIfInBounds_toArray, List.set_cons_zero, List.set_cons_succ]
          go_wp2
          refine ⟨.bool false, ?_⟩
          simp [upd, g14, Below.refl]
        · have g15 : f 15 = .slice none 0 0 := hd 15 (by kernel_rfl)
          refine wpOp_list rfl ?_
          simp only [tmOf, putAll, List.map_cons, List.map_nil, List.setIfInBounds_toArray, List.set_cons_zero, List.set_cons_succ]
          go_wp2
          refine ⟨.slice none 0 0, ?_⟩
          simp [upd, g15, Below.refl]
        · have g16 : f 16 = .bool false := hd 16 (by kernel_rfl)
          refine wpOp_list rfl ?_
          simp only [tmOf, putAll, List.map_cons, List.map_nil, List.setIfInBounds_toArray, List.set_cons_zero, List.set_cons_succ]
          go_wp2
          refine ⟨.bool false, ?_⟩
          simp [upd, g16, Below.refl]
        · simp only [List.length_cons, List.length_nil] at hx; omega
      · rintro f ww hS hd
        have G11 : f 17 = .slice none 0 0 := hd 17 (by decide)
        have G12 : f 18 = .bool false := hd 18 (by decide)
        simp only [tmOf, putAll, List.map_cons, List.map_nil, List.setIfInBounds_toArray, List.set_cons_zero, List.set_cons_succ]
        refine ‹∀ (a' : Act) (w' : World), Met _ a' w' → _› _ _ ?_
        go_meet
        case rel => exact ⟨G11, G12, hS⟩
    case rest =>
    obtain ⟨rfl, rfl, hbz⟩ := hcut
    have kR := kR.kept hbz
    have hb := hb.trans (hbz.mono hb.size)
    clear hbz kx ky kz kk Hx Hy Hz Hk HW HLOW
    have d0 := kR.cell (i := 0) rfl
    have q0 := kR.frozen 0
    have d1 := kR.cell (i := 1) rfl
    have q1 := kR.frozen 1
    have d2 := kR.cell (i := 2) rfl
    have q2 := kR.frozen 2
    have d3 := kR.cell (i := 3) rfl
    have q3 := kR.frozen 3
    have HV : Ending.returned (.tuple #[.agg #[.int .i64 0, .int .i64 0, .int .i64 0, .int .i64 0], .int .i64 2]) = Ending.returned (.tuple #[.agg #[.int .i64 0, .int .i64 0, .int .i64 0, .int .i64 0], .int .i64 2]) := rfl
    go_wp2_with fail
    have L := Blk.put4 kR (.int .i64 0) (.int .i64 0) (.int .i64 0) (.int .i64 0)
    have z0 := L.cell (i := 0) rfl
    have z1 := L.cell (i := 1) rfl
    have z2 := L.cell (i := 2) rfl
    have z3 := L.cell (i := 3) rfl
    exact bodyPost_ret (v := .tuple #[.agg #[.int .i64 0, .int .i64 0, .int .i64 0, .int .i64 0], .int .i64 2]) (by simp [results, Tryz.results117, go_sem, z0, z1, z2, z3]) rfl ⟨rfl, (((hb.setCell (by simp only; omega) _).setCell (by simp only; omega) _).setCell (by simp only; omega) _).setCell (by simp only; omega) _⟩

end Go.Proofs.YtimkeblcdodfmaaGreat

namespace Go.Proofs.YtimkeblcdodfmaaGreat
open Go.RowKit Go.Shelf
attribute [local go_sem] Oper.semAt_some

/-- How v lies to u, seen from the outer side of what has the normal n. -/
def angV (n u v : V3) : Int := if sgnI (dotV n (crsV u v)) = 1 then 1 else if sgnI (dotV n (crsV u v)) = -1 then 3 else if 0 < sgnI (dotV u v) then 0 else 2

set_option maxRecDepth 100000 in
set_option maxHeartbeats 4000000 in
theorem angle_any (n u v : V3) (w : World) (hn : Far n 1000) (hu : Far u 2000000) (hv : Far v 2000000) : Calls Tryz.prog 72 #[.agg #[.int .i64 n.a, .int .i64 n.b, .int .i64 n.c], .agg #[.int .i64 u.a, .int .i64 u.b, .int .i64 u.c], .agg #[.int .i64 v.a, .int .i64 v.b, .int .i64 v.c]] w fun e w' => e = .returned (.int .i64 (angV n u v)) ∧ Below w.heap.size w w' := by
  obtain ⟨w1, hw1⟩ : ∃ w1, (((w.alloc (.cells #[.int .i64 n.a, .int .i64 n.b, .int .i64 n.c] 24)).alloc (.cells #[.int .i64 u.a, .int .i64 u.b, .int .i64 u.c] 24)).alloc (.cells #[.int .i64 v.a, .int .i64 v.b, .int .i64 v.c] 24)) = w1 := ⟨_, rfl⟩
  have hb1 : Below w.heap.size w w1 := by rw [← hw1]; exact bw3 w _ _ _
  have k0 : Blk w1 (w.heap.size) #[.int .i64 n.a, .int .i64 n.b, .int .i64 n.c] 24 := by rw [← hw1]; exact (((Blk.new w _ _).alloc _).alloc _)
  have k1 : Blk w1 (w.heap.size + 1) #[.int .i64 u.a, .int .i64 u.b, .int .i64 u.c] 24 := by rw [← hw1]; exact ((Blk.new' _ _ _ (by simp)).alloc _)
  have k2 : Blk w1 (w.heap.size + 1 + 1) #[.int .i64 v.a, .int .i64 v.b, .int .i64 v.c] 24 := by rw [← hw1]; exact (Blk.new' _ _ _ (by simp))
  have hxf := crs_far hu hv
  have hcr := fun W => crs_any u v 2000000 2000000 W hu hv (by decide)
  have hdt := fun W => dotL_any n (crsV u v) 1000 (2 * (2000000 * 2000000)) W hn hxf (by decide)
  have hsg := fun W => signL_any (dotV n (crsV u v)) W
  have hd2 := fun W => dotL_any u v 2000000 2000000 W hu hv (by decide)
  have hs2 := fun W => signL_any (dotV u v) W
  unfold angV
  obtain ⟨s, hs⟩ : ∃ y, sgnI (dotV n (crsV u v)) = y := ⟨_, rfl⟩
  obtain ⟨s2, hse⟩ : ∃ y, sgnI (dotV u v) = y := ⟨_, rfl⟩
  rw [hs] at hsg ⊢
  rw [hse] at hs2 ⊢
  obtain ⟨t, ht⟩ : ∃ y, dotV n (crsV u v) = y := ⟨_, rfl⟩
  rw [ht] at hdt hsg
  obtain ⟨x, hx⟩ : ∃ y, crsV u v = y := ⟨_, rfl⟩
  rw [hx] at hdt hcr
  obtain ⟨t2, ht2⟩ : ∃ y, dotV u v = y := ⟨_, rfl⟩
  rw [ht2] at hd2 hs2
  have HX := Lib.hid hcr
  have HT := Lib.hid hdt
  have HS := Lib.hid hsg
  have HT2 := Lib.hid hd2
  have HS2 := Lib.hid hs2
  obtain ⟨R, hR⟩ : ∃ y : Int, (if s = 1 then 1 else if s = -1 then 3 else if 0 < s2 then 0 else 2) = y := ⟨_, rfl⟩
  rw [hR]
  have HR := Lib.hid hR
  clear hxf hcr hdt hsg hd2 hs2 hs hse ht hx ht2 hR hn hu hv
  go_enter Tryz.func72, Tryz.ntmps72
  go_upto_region 1 with fail
  go_cut [12] from 7 to 12 (fun v12 wx => v12 = .int .i64 s ∧ Below w1.heap.size w1 wx)
  case first =>
    refine wp_region_pure' (fun ix => match ix with | 0 => .agg #[.int .i64 n.a, .int .i64 n.b, .int .i64 n.c] | 1 => .agg #[.int .i64 u.a, .int .i64 u.b, .int .i64 u.c] | 2 => .agg #[.int .i64 v.a, .int .i64 v.b, .int .i64 v.c] | 3 => .agg #[.int .i64 x.a, .int .i64 x.b, .int .i64 x.c] | 4 => .int .i64 t | _ => .int .i64 s) (by kernel_rfl) (by kernel_rfl) ?_ ?_
    · rintro ix hx f ww hS hd
      have ka := k0.kept hS
      have kb := k1.kept hS
      have kc := k2.kept hS
      have a0_ := ka.cell (i := 0) rfl
      have a1_ := ka.cell (i := 1) rfl
      have a2_ := ka.cell (i := 2) rfl
      have b0_ := kb.cell (i := 0) rfl
      have b1_ := kb.cell (i := 1) rfl
      have b2_ := kb.cell (i := 2) rfl
      have c0_ := kc.cell (i := 0) rfl
      have c1_ := kc.cell (i := 1) rfl
      have c2_ := kc.cell (i := 2) rfl
      rcases ix with _ | _ | _ | _ | _ | _ | ix
      · refine wpOp_list rfl ?_
        simp only [tmOf, putAll, List.map_cons, List.map_nil, List.setIfInBounds_toArray, List.set_cons_zero, List.set_cons_succ]
        go_wp2
        simp [upd, Below.refl]
      · refine wpOp_list rfl ?_
        simp only [tmOf, putAll, List.map_cons, List.map_nil, List.setIfInBounds_toArray, List.set_cons_zero, List.set_cons_succ]
        go_wp2
        simp [upd, Below.refl]
      · refine wpOp_list rfl ?_
        simp only [tmOf, putAll, List.map_cons, List.map_nil, List.setIfInBounds_toArray, List.set_cons_zero, List.set_cons_succ]
        go_wp2
        simp [upd, Below.refl]
      · have g1 : f 1 = .agg #[.int .i64 u.a, .int .i64 u.b, .int .i64 u.c] := hd 1 (by kernel_rfl)
        have g2 : f 2 = .agg #[.int .i64 v.a, .int .i64 v.b, .int .i64 v.c] := hd 2 (by kernel_rfl)
        refine wpOp_list rfl ?_
        simp only [tmOf, putAll, List.map_cons, List.map_nil, List.setIfInBounds_toArray, List.set_cons_zero, List.set_cons_succ]
        go_wp2_with fail
        refine (HX.out _).mono ?_
        rintro e' wf ⟨rfl, hbf⟩
        go_wp2_with fail
        simp [upd, g1, g2, hbf]
      · have g0 : f 0 = .agg #[.int .i64 n.a, .int .i64 n.b, .int .i64 n.c] := hd 0 (by kernel_rfl)
        have g3 : f 3 = .agg #[.int .i64 x.a, .int .i64 x.b, .int .i64 x.c] := hd 3 (by kernel_rfl)
        refine wpOp_list rfl ?_
        simp only [tmOf, putAll, List.map_cons, List.map_nil, List.setIfInBounds_toArray, List.set_cons_zero, List.set_cons_succ]
        go_wp2_with fail
        refine (HT.out _).mono ?_
        rintro e' wf ⟨rfl, hbf⟩
        go_wp2_with fail
        simp [upd, g0, g3, hbf]
      · have g4 : f 4 = .int .i64 t := hd 4 (by kernel_rfl)
        refine wpOp_list rfl ?_
        simp only [tmOf, putAll, List.map_cons, List.map_nil, List.setIfInBounds_toArray, List.set_cons_zero, List.set_cons_succ]
        go_wp2_with fail
        refine (HS.out _).mono ?_
        rintro e' wf ⟨rfl, hbf⟩
        go_wp2_with fail
        simp [upd, g4, hbf]
      · simp only [List.length_cons, List.length_nil] at hx; omega
    · rintro f ww hS hd
      have gl : f 5 = .int .i64 s := hd 5 (by decide)
      simp only [tmOf, putAll, List.map_cons, List.map_nil, List.setIfInBounds_toArray, List.set_cons_zero, List.set_cons_succ]
      refine ‹∀ (a' : Act) (w' : World), Met _ a' w' → _› _ _ ?_
      go_meet
      case rel => exact ⟨gl, hS⟩
  case rest =>
  obtain ⟨rfl, hbx⟩ := hcut
  have k0 := k0.kept hbx
  have k1 := k1.kept hbx
  have k2 := k2.kept hbx
  have hb := hb1.trans (hbx.mono hb1.size)
  clear hbx hw1 hb1 HX HT HS
  generalize wc = wy at *
  by_cases h1 : s = 1
  · have hR1 : R = 1 := by rw [← HR.out, if_pos h1]
    have HR1 := Lib.hid hR1
    subst h1
    clear hR1 HR HT2 HS2
    go_wp2_with fail
    go_ret
    exact ⟨by rw [HR1.out]; rfl, hb⟩
  · by_cases h2 : s = -1
    · have hR1 : R = 3 := by rw [← HR.out, if_neg h1, if_pos h2]
      have HR1 := Lib.hid hR1
      subst h2
      clear hR1 HR HT2 HS2 h1
      go_wp2_with fail
      go_ret
      exact ⟨by rw [HR1.out]; rfl, hb⟩
    · have hR1 : R = if 0 < s2 then 0 else 2 := by rw [← HR.out, if_neg h1, if_neg h2]
      have HR1 := Lib.hid hR1
      have e1 : (s == 1) = false := by simp [h1]
      have e2 : (s == -1) = false := by simp [h2]
      clear hR1 HR h1 h2
      go_upto_region 6 with fail
      have b0 := k1.cell (i := 0) rfl
      have b1 := k1.cell (i := 1) rfl
      have b2 := k1.cell (i := 2) rfl
      have c0 := k2.cell (i := 0) rfl
      have c1 := k2.cell (i := 1) rfl
      have c2 := k2.cell (i := 2) rfl
      go_wp2_with fail
      refine (HT2.out _).mono ?_
      rintro e' wf ⟨rfl, hbf⟩
      clear b0 b1 b2 c0 c1 c2
      go_wp2_with fail
      refine (HS2.out _).mono ?_
      rintro e' wg ⟨rfl, hbg⟩
      have hb := hb.trans ((hbf.trans (hbg.mono hbf.size)).mono hb.size)
      clear hbf hbg k0 k1 k2 HT2 HS2
      by_cases h3 : 0 < s2
      · have hR2 : R = 0 := by rw [HR1.out, if_pos h3]
        have HR2 := Lib.hid hR2
        have e3 : decide (0 < s2) = true := by simp [h3]
        clear hR2 HR1 h3
        go_wp2_with fail
        go_ret
        exact ⟨by rw [HR2.out]; rfl, hb⟩
      · have hR2 : R = 2 := by rw [HR1.out, if_neg h3]
        have HR2 := Lib.hid hR2
        have e3 : decide (0 < s2) = false := by simp [h3]
        clear hR2 HR1 h3
        go_wp2_with fail
        go_ret
        exact ⟨by rw [HR2.out]; rfl, hb⟩

end Go.Proofs.YtimkeblcdodfmaaGreat
