/-
  The reference's determinant, by the first row; Quotients, plain: by the machine's own division; digit by digit, each found by halving; append of a slice of digits onto a row of the call's own; The reference's quotients.
-/
import Derived.Deep.CutRange
import Derived.Laws.AppendOwnNone
import Derived.Deep.CutBlock
import Derived.Test.YthdhakpmhndbfaaK1
import Derived.Test.YthdhakpmhndbfaaK2
import Derived.Test.YthdhakpmhndbfaaK3
import Derived.Test.YthdhakpmhndbfaaK9
import Derived.Test.YthdhakpmhndbfaaK10
import Derived.Test.YthdhakpmhndbfaaK11
import Derived.Test.YthdhakpmhndbfaaK12
namespace Go.Proofs.Ythdhakpmhndbfaa
open Go.RowKit

def DL (n : Nat) : Nat := 5 + 70 * n

theorem NumsR.take {w : World} {a : Option Addr} {row : List Int} {K : Nat} (h : NumsR w a row K) (c : Nat) : NumsR w a (row.take c) K := by
  intro k z hk
  have hl := (List.getElem?_eq_some_iff.1 hk).1
  rw [List.length_take] at hl
  rw [List.getElem?_take_of_lt (by omega)] at hk
  exact h k z hk
theorem NumsR.drop {w : World} {b off : Nat} {row : List Int} {K : Nat} (h : NumsR w (some ⟨b, off, none⟩) row K) (c : Nat) : NumsR w (some ⟨b, off + c * 2, none⟩) (row.drop c) K := by
  intro k z hk
  rw [List.getElem?_drop] at hk
  obtain ⟨b', off', neg, q, n, c', xs, hp, hlt, h0, h1, hr, hn⟩ := h (c + k) z hk
  cases hp
  exact ⟨b, off + c * 2, neg, q, n, c', xs, rfl, hlt, by rw [show off + c * 2 + k * 2 = off + (c + k) * 2 by omega]; exact h0, by rw [show off + c * 2 + k * 2 + 1 = off + (c + k) * 2 + 1 by omega]; exact h1, hr, hn⟩
theorem NumsR.some {w : World} {a : Option Addr} {row : List Int} {K : Nat} (h : NumsR w a row K) (h0 : 0 < row.length) : ∃ g o, a = Option.some ⟨g, o, none⟩ := by
  obtain ⟨b, off, _, _, _, _, _, e, _⟩ := h 0 _ (List.getElem?_eq_getElem h0)
  exact ⟨b, off, e⟩
theorem cuts_snoc {T : List (List Int)} {c j : Nat} (hj : j < T.length) : (T.take (j + 1)).map (cutAt c) = (T.take j).map (cutAt c) ++ [T[j].take c ++ T[j].drop (c + 1)] := by
  rw [List.take_succ_eq_append_getElem hj, List.map_append]; rfl
theorem cuts_len (T : List (List Int)) (c j : Nat) (hj : j ≤ T.length) : ((T.take j).map (cutAt c)).length = j := by rw [List.length_map, List.length_take]; omega

/-- What holds whichever operations of 'x := Mul(m[0][c], Determinant(rest))' are done. -/
def DetI (w0 : World) (V0 V5 : Value) (b0 o0 : Nat) (Vr : Value) (ci : Int) (g e : Nat) (VE : Value) (Zm Zt : Int) (LM LT : Nat) (tm : Value → Value → Value → Value → Value → Value → Value → Value → Value → Value → Act) (L : Nat → Bool) (x : Act) (w : World) : Prop :=
  ∃ v8 v45 v46 v47 v48 v49 v50 v51 v52 v53, x = tm v8 v45 v46 v47 v48 v49 v50 v51 v52 v53 ∧ Below w0.heap.size w0 w
    ∧ (L 0 = true → v45 = V0) ∧ (L 1 = true → v46 = .pointer (some ⟨b0, o0, none⟩)) ∧ (L 2 = true → v47 = Vr) ∧ (L 3 = true → v48 = .int .i64 ci) ∧ (L 4 = true → v49 = .pointer (some ⟨g, e, none⟩)) ∧ (L 5 = true → v50 = VE) ∧ (L 6 = true → v51 = V5)
    ∧ (L 7 = true → ∃ neg p m d xs, v52 = .agg #[.bool neg, .slice p m d] ∧ RIs w neg p m d xs Zm ∧ m ≤ LM)
    ∧ (L 8 = true → ∃ neg p m d xs, v53 = .agg #[.bool neg, .slice p m d] ∧ RIs w neg p m d xs Zt ∧ m ≤ LT)
    ∧ (L 9 = true → ∃ B a q k d, v8 = .pointer (some ⟨B, 0, none⟩) ∧ w0.heap.size ≤ B ∧ Boxed2 w B (.bool a) (.slice q k d) 82 ∧ (L 10 = true → ∃ xs, RIs w a q k d xs Zt ∧ k ≤ LT))
    ∧ (L 10 = true → L 9 = true)

def RDetC (n : Nat) : Prop := ∀ (a : Option Addr) (ca : Nat) (M : List (List Int)) (w : World), M.length = n → (∀ row ∈ M, row.length = n) → RdMN w a M 60 →
  Calls Try.prog 59 #[.slice a n ca] w (RV w (detR n M) (DL n))

set_option maxHeartbeats 1000000 in
theorem rdet_zero : RDetC 0 := by
  intro a ca M w _ _ _
  have b2 := Boxed2.new w (.bool false) (.slice none 0 0) 82
  have hbA : Below w.heap.size w (w.alloc (.cells #[.bool false, .slice none 0 0] 82)) := (Below.refl _ w).alloc (Nat.le_refl _) _
  have HF := Lib.hid (fun W => from_any 1 (by decide) (by decide) W)
  go_enter Try.func59, Try.ntmps59
  go_wp2_with fail
  refine (HF.out _).mono ?_
  rintro e w1 ⟨ng1, p1, n1, c1, xs1, rfl, h1, hn1, hb1'⟩
  have hb1 := hbA.trans (hb1'.mono hbA.size)
  have b2 := b2.below hb1' b2.lt
  have k0 := b2.cell0
  have k1 := b2.cell1
  have q0 := b2.frozen (i := 0)
  have q1 := b2.frozen (i := 1)
  go_wp2_with fail
  have rS := b2.set (.bool ng1) (.slice p1 n1 c1)
  have z0 := rS.cell0
  have z1 := rS.cell1
  refine bodyPost_ret (v := .agg #[.bool ng1, .slice p1 n1 c1]) (by simp [results, Try.results59, go_sem, z0, z1]) rfl ⟨ng1, p1, n1, c1, xs1, rfl, h1.set2 b2 ng1 (.slice p1 n1 c1), by unfold DL; omega, ?_⟩
  exact (hb1.setCell (p := ⟨w.heap.size, 0, none⟩) (by simp) (.bool ng1)).setCell (p := ⟨w.heap.size, 1, none⟩) (by simp) (.slice p1 n1 c1)

set_option maxRecDepth 100000 in
set_option maxHeartbeats 8000000 in
theorem rdet_succ (n : Nat) (hn6 : n + 1 ≤ 6) (ih : RDetC n) : RDetC (n + 1) := by
  intro a ca M w hM hsq hr
  obtain ⟨r0, T, rfl⟩ : ∃ r0 T, M = r0 :: T := by cases M with | nil => simp at hM | cons r T => exact ⟨r, T, rfl⟩
  have hTl : T.length = n := by simpa using hM
  have hr0 : r0.length = n + 1 := hsq r0 List.mem_cons_self
  have hdet : detR (n + 1) (r0 :: T) = altS r0 (fun c => detR n (T.map (cutAt c))) (n + 1) := rfl
  rw [hdet]
  obtain ⟨f, hf⟩ : ∃ f : Nat → Int, (fun c => detR n (T.map (cutAt c))) = f := ⟨_, rfl⟩
  rw [hf]
  have HF := Lib.hid hf
  clear hf hdet hM
  have HIH := Lib.hid ih
  have HR := Lib.hid hr
  have HSQ := Lib.hid hsq
  have HTL := Lib.hid hTl
  obtain ⟨b0, o0, q0, cq0, ha, hbl0, hc00, hcq0, hnr0⟩ := hr 0 r0 rfl
  obtain ⟨g0, og0, hq0⟩ := hnr0.some (by omega)
  subst ha hq0
  rw [hr0, Nat.add_zero] at hc00
  rw [hr0] at hcq0
  have HNR0 := Lib.hid hnr0
  have HC00 := Lib.hid hc00
  have HR0 := Lib.hid hr0
  clear ih hr hsq hTl hnr0 hc00 hr0
  obtain ⟨N, hN⟩ : ∃ N, n + 1 = N := ⟨_, rfl⟩
  have hNn : (n : Int) + 1 = (N : Int) := by omega
  rw [hN] at hcq0 hn6 ⊢
  have HN := Lib.hid hN
  have hN0 : ¬ (N : Int) = 0 := by omega
  have hNpos : (0 : Int) < (N : Int) := by omega
  have hN0' : ((N : Int) == 0) = false := by simpa using hN0
  have hb0 : Below w.heap.size w ((w.alloc (.cells #[.bool false, .slice none 0 0] 82)).alloc (.cells #[.bool false, .slice none 0 0] 82)) := ((Below.refl _ w).alloc (Nat.le_refl _) _).alloc (by simp) _
  have b2 := (pair_boxes (W := w) (.bool false) (.slice none 0 0) (.bool false) (.slice none 0 0) 82).1
  have b3 := (pair_boxes (W := w) (.bool false) (.slice none 0 0) (.bool false) (.slice none 0 0) 82).2
  clear hN
  go_enter Try.func59, Try.ntmps59
  go_wp2_with fail
  generalize hWA : ((w.alloc (.cells #[.bool false, .slice none 0 0] 82)).alloc (.cells #[.bool false, .slice none 0 0] 82)) = wA at *
  clear hWA
  go_loopg [4] N (fun gk v4 wr => ∃ (c : Nat) (ng : Bool) (q : Option Addr) (m d : Nat) (ys : List Nat), c ≤ N ∧ gk = N - c ∧ v4 = .int .i64 (c : Int) ∧ Boxed2 wr w.heap.size (.bool false) (.slice none 0 0) 82 ∧ Boxed2 wr (w.heap.size + 1) (.bool ng) (.slice q m d) 82 ∧ Hid (RIs wr ng q m d ys (altS r0 f c)) ∧ m ≤ 60 + DL n + c ∧ Below w.heap.size w wr)
  case atStart => exact ⟨0, false, none, 0, 0, [], Nat.zero_le _, rfl, rfl, b2, b3, RIs.zero _, by omega, hb0⟩
  case round =>
    obtain ⟨c, ng, q, m, d, ys, hc, hgk, rfl, b2, b3, HY, hm, hb⟩ := hrel
    have HGK := Lib.hid hgk
    clear hgk
    have l3 := b3.lt
    by_cases hlt : c < N
    · have hci : (c : Int) < (N : Int) := by omega
      have hccq : (c : Int) ≤ (cq0 : Int) := by omega
      have hone : (1 : Int) ≤ (N : Int) := by omega
      go_wp2_with fail
      generalize wr = wo at *
      go_loopg [5, 6] n (fun gk v5 v6 wx => ∃ (i j : Nat) (p5 : Option Addr) (c5 : Nat), Hid (i = j + 1) ∧ j ≤ n ∧ gk = n - j ∧ v6 = .int .i64 (i : Int) ∧ v5 = .slice p5 j c5 ∧ Hid (GrMN wx wo.heap.size v5 ((T.take j).map (cutAt c)) 60) ∧ wo.heap.size ≤ wx.heap.size ∧ Below wo.heap.size wo wx)
      case atStart => exact ⟨1, 0, none, 0, rfl, Nat.zero_le _, rfl, rfl, rfl, GrMN.nil _ _ _, Nat.le_refl _, Below.refl _ _⟩
      case round =>
        obtain ⟨i, j, p5, c5, HIJ, hj, hgk2, rfl, rfl, HG, hsz2, hbx⟩ := hrel
        have HGK2 := Lib.hid hgk2
        clear hgk2
        have hbw := hb.trans (hbx.mono hb.size)
        by_cases hlt2 : i < N
        · have hii : (i : Int) < (N : Int) := by omega
          have hjl : j < T.length := by rw [HTL.out]; have := HN.out; have := HIJ.out; omega
          have hTi : (r0 :: T)[i]? = some T[j] := by rw [HIJ.out, List.getElem?_cons_succ]; exact List.getElem?_eq_getElem hjl
          obtain ⟨b1, o1, q1, cq1, he1, hbl1, hc1, hcq1, hnr1⟩ := HR.out i _ hTi
          cases he1
          have hrl := HSQ.out T[j] (List.mem_cons_of_mem _ (List.getElem_mem hjl))
          rw [HN.out] at hrl
          have hsn := cuts_snoc (c := c) hjl
          generalize T[j] = row at *
          obtain ⟨g1, og1, hq1⟩ := hnr1.some (by omega)
          subst hq1
          rw [hrl] at hc1 hcq1
          have hcell := (hbw.cell (p := ⟨b0, o0 + i, none⟩) hbl0).trans hc1
          have hseg1 := (hnr1.below hbw).take c
          have hl1 : (row.take c).length = c := by rw [List.length_take]; omega
          have HSN := Lib.hid hsn
          have HRL := Lib.hid hrl
          have hnr1x := hnr1
          have hcc : (c : Int) ≤ (cq1 : Int) := by omega
          have hcc1 : (c : Int) + 1 ≤ (N : Int) := by omega
          have hnil := GrNum.nil wr wr.heap.size 60
          clear hsn hTi hc1 hrl hnr1
          have hcw := hbw.size
          have hl2 : (row.drop (c + 1)).length = N - (c + 1) := by rw [List.length_drop, HRL.out]
          have hl8 : (row.take c ++ row.drop (c + 1)).length = n := by rw [List.length_append, hl1, hl2]; omega
          have hjc := cuts_len T c j (by rw [HTL.out]; exact hj)
          have hjn : j < n := by have := HIJ.out; omega
          by_cases hcap : cq1 = c + 1
          · have HSEG2 : Hid (NumsR wr (some ⟨g1, og1, none⟩) (row.drop (c + 1)) 60) := by
              rw [List.drop_eq_nil_of_le (by rw [HRL.out]; omega)]
              intro k z hk; simp at hk
            clear hnr1x
            replace hl2 : (row.drop (c + 1)).length = 0 := by rw [hl2]; omega
            subst hcap
            go_wp2_with (first
              | (at_builtin; refine pushSeg_law rfl _ _ rfl rfl hnil hl1 hseg1 rfl (by simp) (by omega) (Nat.le_refl _) ?_; intro v7 w7 hg7 hb7; have hcell7 := (hb7.cell (p := ⟨b0, o0 + i, none⟩) (Nat.lt_of_lt_of_le hbl0 hcw)).trans hcell; replace hg7 : GrNum w7 wr.heap.size v7 (row.take c) 60 := hg7; obtain ⟨p7, c7, rfl⟩ := hg7.form hl1)
              | (at_builtin; refine pushSeg_law rfl _ _ rfl rfl hg7 hl2 (HSEG2.out.below hb7) rfl (by rw [hl1]; omega) (by omega) hb7.size ?_; intro v8 w8 hg8 hb8; obtain ⟨p8, c8, hv8, hc8, hnr8⟩ := hg8.rd; rw [hl8] at hv8 hc8; subst hv8; have hgm8 := HG.out.below (hb7.trans hb8))
              | (at_builtin; refine pushNRow_law rfl _ _ rfl rfl hgm8 hl8 hc8 hnr8 rfl (by rw [hjc]; omega) (Nat.le_trans hsz2 (Nat.le_trans hb7.size hb8.size)) ?_; intro v9 w9 hgm9 hb9))
            go_roundg (n - (j + 1))
            case measure => rw [HGK2.out]; omega
            case rel =>
              replace hgm9 : GrMN w9 wo.heap.size v9 ((T.take j).map (cutAt c) ++ [row.take c ++ row.drop (c + 1)]) 60 := hgm9
              rw [← HSN.out] at hgm9
              obtain ⟨p', c', hv'⟩ := hgm9.form (cuts_len T c (j + 1) (by rw [HTL.out]; omega))
              have hs8 := Nat.le_trans hsz2 (Nat.le_trans hb7.size hb8.size)
              exact ⟨i + 1, j + 1, p', c', by have := HIJ.out; show i + 1 = j + 1 + 1; omega, by omega, rfl, by go_num, hv', hgm9, Nat.le_trans hs8 hb9.size, (hbx.trans ((hb7.trans hb8).mono hsz2)).trans hb9⟩
          · have HSEG2 := Lib.hid ((hnr1x.below hbw).drop (c + 1))
            have hcap' : c + 1 < cq1 := by omega
            clear hnr1x
            go_wp2_with (first
              | (at_builtin; refine pushSeg_law rfl _ _ rfl rfl hnil hl1 hseg1 rfl (by simp) (by omega) (Nat.le_refl _) ?_; intro v7 w7 hg7 hb7; have hcell7 := (hb7.cell (p := ⟨b0, o0 + i, none⟩) (Nat.lt_of_lt_of_le hbl0 hcw)).trans hcell; replace hg7 : GrNum w7 wr.heap.size v7 (row.take c) 60 := hg7; obtain ⟨p7, c7, rfl⟩ := hg7.form hl1)
              | (at_builtin; refine pushSeg_law rfl _ _ rfl rfl hg7 hl2 (HSEG2.out.below hb7) rfl (by rw [hl1]; omega) (by omega) hb7.size ?_; intro v8 w8 hg8 hb8; obtain ⟨p8, c8, hv8, hc8, hnr8⟩ := hg8.rd; rw [hl8] at hv8 hc8; subst hv8; have hgm8 := HG.out.below (hb7.trans hb8))
              | (at_builtin; refine pushNRow_law rfl _ _ rfl rfl hgm8 hl8 hc8 hnr8 rfl (by rw [hjc]; omega) (Nat.le_trans hsz2 (Nat.le_trans hb7.size hb8.size)) ?_; intro v9 w9 hgm9 hb9))
            go_roundg (n - (j + 1))
            case measure => rw [HGK2.out]; omega
            case rel =>
              replace hgm9 : GrMN w9 wo.heap.size v9 ((T.take j).map (cutAt c) ++ [row.take c ++ row.drop (c + 1)]) 60 := hgm9
              rw [← HSN.out] at hgm9
              obtain ⟨p', c', hv'⟩ := hgm9.form (cuts_len T c (j + 1) (by rw [HTL.out]; omega))
              have hs8 := Nat.le_trans hsz2 (Nat.le_trans hb7.size hb8.size)
              exact ⟨i + 1, j + 1, p', c', by have := HIJ.out; show i + 1 = j + 1 + 1; omega, by omega, rfl, by go_num, hv', hgm9, Nat.le_trans hs8 hb9.size, (hbx.trans ((hb7.trans hb8).mono hsz2)).trans hb9⟩
        · have hii : ¬ (i : Int) < (N : Int) := by omega
          have hjn : n = j := by have := HIJ.out; have := HN.out; omega
          subst hjn
          have hgm := HG.out
          rw [List.take_of_length_le (by rw [HTL.out]; exact Nat.le_refl _)] at hgm
          obtain ⟨p6, c6, hv6, hc6, hrd6⟩ := hgm.rd
          have hml : (T.map (cutAt c)).length = n := by rw [List.length_map]; exact HTL.out
          rw [hml] at hv6
          cases hv6
          have hsq6 : ∀ row ∈ T.map (cutAt c), row.length = n := by
            intro row hrow
            obtain ⟨r, hr, rfl⟩ := List.mem_map.1 hrow
            have hrn := HSQ.out r (List.mem_cons_of_mem _ hr)
            have := HN.out
            unfold cutAt
            rw [List.length_append, List.length_take, List.length_drop, hrn]; omega
          have hfc : detR n (T.map (cutAt c)) = f c := congrFun HF.out c
          have HCALL : Hid (∀ W, Below wr.heap.size wr W → Calls Try.prog 59 #[.slice p5 n c5] W (RV W (f c) (DL n))) := by
            intro W hW
            have := HIH.out p5 c5 (T.map (cutAt c)) W hml hsq6 (hrd6.below hW)
            rw [hfc] at this
            exact this
          obtain ⟨b', og, ng9, q9, n9, d9, xs9, he9, hg9, e90, e91, hx9, hn9⟩ := HNR0.out c (ent r0 c) (by rw [ent_at (by rw [HR0.out]; have := HN.out; omega)]; exact List.getElem?_eq_getElem (by rw [HR0.out]; have := HN.out; omega))
          cases he9
          have hc00 := (hbw.cell (p := ⟨b0, o0, none⟩) hbl0).trans HC00.out
          rw [HN.out] at hc00
          have e90w := (hbw.cell (p := ⟨g0, og0 + c * 2, none⟩) hg9).trans e90
          have e91w := (hbw.cell (p := ⟨g0, og0 + c * 2 + 1, none⟩) hg9).trans e91
          have hx9w := hx9.below hbw
          have b2w := b2.below hbx b2.lt
          have b3w := b3.below hbx b3.lt
          have HYw := HY.out.below hbx
          have HX9 := Lib.hid hx9w
          have HYW := Lib.hid HYw
          clear hgm hc6 hrd6 hsq6 hfc hx9 hx9w HYw HG HIJ hml
          go_upto_region 14 with fail
          go_cut [8] from 45 to 53 (fun v8 wx => ∃ B8 a8 q8 k8 d8 xs8, v8 = .pointer (some ⟨B8, 0, none⟩) ∧ wr.heap.size ≤ B8 ∧ Boxed2 wx B8 (.bool a8) (.slice q8 k8 d8) 82 ∧ Hid (RIs wx a8 q8 k8 d8 xs8 (ent r0 c * f c)) ∧ k8 ≤ 60 + DL n ∧ Below wr.heap.size wr wx)
          case first =>
            refine wp_region_inv (by kernel_rfl) (by kernel_rfl) (DetI wr (.slice (some ⟨b0, o0, none⟩) N ca) (.slice p5 n c5) b0 o0 (.slice (some ⟨g0, og0, none⟩) N cq0) (c : Int) g0 (og0 + c * 2) (.agg #[.bool ng9, .slice q9 n9 d9]) (f c) (ent r0 c * f c) (DL n) (60 + DL n) (fun v8 v45 v46 v47 v48 v49 v50 v51 v52 v53 => { tmps := #[.slice (some ⟨b0, o0, none⟩) N ca, undef, .pointer (some ⟨w.heap.size, 0, none⟩), .pointer (some ⟨w.heap.size + 1, 0, none⟩), .int .i64 (c : Int), .slice p5 n c5, .int .i64 (i : Int), u7, v8, .slice (some ⟨b0, o0, none⟩) N ca, .int .i64 (N : Int), .bool false, undef, .int .i64 (c : Int), .slice (some ⟨b0, o0, none⟩) N ca, .int .i64 (N : Int), .bool true, u17, u18, .int .i64 (i : Int), .slice (some ⟨b0, o0, none⟩) N ca, .int .i64 (N : Int), .bool false, u23, u24, u25, u26, u27, u28, u29, u30, u31, u32, u33, u34, u35, u36, u37, u38, u39, u40, u41, u42, u43, u44, v45, v46, v47, v48, v49, v50, v51, v52, v53, u54, u55, u56, u57, u58, u59, u60, u61, undef], defers := [] })) ?h0 ?step ?done
            case h0 => exact ⟨_, _, _, _, _, _, _, _, _, _, rfl, (Below.refl _ _).drew, by simp, by simp, by simp, by simp, by simp, by simp, by simp, by simp, by simp, by simp, by simp⟩
            case step =>
              rintro S o a' w' ⟨v8, v45, v46, v47, v48, v49, v50, v51, v52, v53, rfl, hbw', f0, f1, f2, f3, f4, f5, f6, f7, f8, f9, o10⟩ ho hS hd
              have s0 := (hbw'.cell (p := ⟨b0, o0, none⟩) (Nat.lt_of_lt_of_le hbl0 hbw.size)).trans hc00
              have s1 := (hbw'.cell (p := ⟨g0, og0 + c * 2, none⟩) (Nat.lt_of_lt_of_le hg9 hbw.size)).trans e90w
              have s2 := (hbw'.cell (p := ⟨g0, og0 + c * 2 + 1, none⟩) (Nat.lt_of_lt_of_le hg9 hbw.size)).trans e91w
              rcases o with _ | _ | _ | _ | _ | _ | _ | _ | _ | _ | _ | o
              · refine wpOp_list rfl ?_
                go_wp2
                exact ⟨_, _, _, _, _, _, _, _, _, _, rfl, hbw', (fun _ => rfl), (fun h => by first | rfl | exact f1 (by simpa using h)), (fun h => by first | rfl | exact f2 (by simpa using h)), (fun h => by first | rfl | exact f3 (by simpa using h)), (fun h => by first | rfl | exact f4 (by simpa using h)), (fun h => by first | rfl | exact f5 (by simpa using h)), (fun h => by first | rfl | exact f6 (by simpa using h)), (fun h => by obtain ⟨_, _, _, _, _, g1, g2, g3⟩ := f7 (by simpa using h); exact ⟨_, _, _, _, _, g1, g2, g3⟩), (fun h => by obtain ⟨_, _, _, _, _, g1, g2, g3⟩ := f8 (by simpa using h); exact ⟨_, _, _, _, _, g1, g2, g3⟩), (fun h => by obtain ⟨_, _, _, _, _, g1, g2, g3, g4⟩ := f9 (by simpa using h); exact ⟨_, _, _, _, _, g1, g2, g3, fun h => g4 (by simpa using h)⟩), (fun h => by have := o10 (by simpa using h); simp [this])⟩
              · simp [depsB, Region.binds] at hd
                obtain rfl := f0 (by simp [hd])
                refine wpOp_list rfl ?_
                go_wp2
                exact ⟨_, _, _, _, _, _, _, _, _, _, rfl, hbw', (fun h => by first | rfl | exact f0 (by simpa using h)), (fun _ => rfl), (fun h => by first | rfl | exact f2 (by simpa using h)), (fun h => by first | rfl | exact f3 (by simpa using h)), (fun h => by first | rfl | exact f4 (by simpa using h)), (fun h => by first | rfl | exact f5 (by simpa using h)), (fun h => by first | rfl | exact f6 (by simpa using h)), (fun h => by obtain ⟨_, _, _, _, _, g1, g2, g3⟩ := f7 (by simpa using h); exact ⟨_, _, _, _, _, g1, g2, g3⟩), (fun h => by obtain ⟨_, _, _, _, _, g1, g2, g3⟩ := f8 (by simpa using h); exact ⟨_, _, _, _, _, g1, g2, g3⟩), (fun h => by obtain ⟨_, _, _, _, _, g1, g2, g3, g4⟩ := f9 (by simpa using h); exact ⟨_, _, _, _, _, g1, g2, g3, fun h => g4 (by simpa using h)⟩), (fun h => by have := o10 (by simpa using h); simp [this])⟩
              · simp [depsB, Region.binds] at hd
                obtain rfl := f1 (by simp [hd])
                refine wpOp_list rfl ?_
                go_wp2
                exact ⟨_, _, _, _, _, _, _, _, _, _, rfl, hbw', (fun h => by first | rfl | exact f0 (by simpa using h)), (fun h => by first | rfl | exact f1 (by simpa using h)), (fun _ => rfl), (fun h => by first | rfl | exact f3 (by simpa using h)), (fun h => by first | rfl | exact f4 (by simpa using h)), (fun h => by first | rfl | exact f5 (by simpa using h)), (fun h => by first | rfl | exact f6 (by simpa using h)), (fun h => by obtain ⟨_, _, _, _, _, g1, g2, g3⟩ := f7 (by simpa using h); exact ⟨_, _, _, _, _, g1, g2, g3⟩), (fun h => by obtain ⟨_, _, _, _, _, g1, g2, g3⟩ := f8 (by simpa using h); exact ⟨_, _, _, _, _, g1, g2, g3⟩), (fun h => by obtain ⟨_, _, _, _, _, g1, g2, g3, g4⟩ := f9 (by simpa using h); exact ⟨_, _, _, _, _, g1, g2, g3, fun h => g4 (by simpa using h)⟩), (fun h => by have := o10 (by simpa using h); simp [this])⟩
              · refine wpOp_list rfl ?_
                go_wp2
                exact ⟨_, _, _, _, _, _, _, _, _, _, rfl, hbw', (fun h => by first | rfl | exact f0 (by simpa using h)), (fun h => by first | rfl | exact f1 (by simpa using h)), (fun h => by first | rfl | exact f2 (by simpa using h)), (fun _ => rfl), (fun h => by first | rfl | exact f4 (by simpa using h)), (fun h => by first | rfl | exact f5 (by simpa using h)), (fun h => by first | rfl | exact f6 (by simpa using h)), (fun h => by obtain ⟨_, _, _, _, _, g1, g2, g3⟩ := f7 (by simpa using h); exact ⟨_, _, _, _, _, g1, g2, g3⟩), (fun h => by obtain ⟨_, _, _, _, _, g1, g2, g3⟩ := f8 (by simpa using h); exact ⟨_, _, _, _, _, g1, g2, g3⟩), (fun h => by obtain ⟨_, _, _, _, _, g1, g2, g3, g4⟩ := f9 (by simpa using h); exact ⟨_, _, _, _, _, g1, g2, g3, fun h => g4 (by simpa using h)⟩), (fun h => by have := o10 (by simpa using h); simp [this])⟩
              · simp [depsB, Region.binds] at hd
                obtain rfl := f2 (by simp [hd])
                obtain rfl := f3 (by simp [hd])
                refine wpOp_list rfl ?_
                go_wp2
                exact ⟨_, _, _, _, _, _, _, _, _, _, rfl, hbw', (fun h => by first | rfl | exact f0 (by simpa using h)), (fun h => by first | rfl | exact f1 (by simpa using h)), (fun h => by first | rfl | exact f2 (by simpa using h)), (fun h => by first | rfl | exact f3 (by simpa using h)), (fun _ => rfl), (fun h => by first | rfl | exact f5 (by simpa using h)), (fun h => by first | rfl | exact f6 (by simpa using h)), (fun h => by obtain ⟨_, _, _, _, _, g1, g2, g3⟩ := f7 (by simpa using h); exact ⟨_, _, _, _, _, g1, g2, g3⟩), (fun h => by obtain ⟨_, _, _, _, _, g1, g2, g3⟩ := f8 (by simpa using h); exact ⟨_, _, _, _, _, g1, g2, g3⟩), (fun h => by obtain ⟨_, _, _, _, _, g1, g2, g3, g4⟩ := f9 (by simpa using h); exact ⟨_, _, _, _, _, g1, g2, g3, fun h => g4 (by simpa using h)⟩), (fun h => by have := o10 (by simpa using h); simp [this])⟩
              · simp [depsB, Region.binds] at hd
                obtain rfl := f4 (by simp [hd])
                refine wpOp_list rfl ?_
                go_wp2
                exact ⟨_, _, _, _, _, _, _, _, _, _, rfl, hbw', (fun h => by first | rfl | exact f0 (by simpa using h)), (fun h => by first | rfl | exact f1 (by simpa using h)), (fun h => by first | rfl | exact f2 (by simpa using h)), (fun h => by first | rfl | exact f3 (by simpa using h)), (fun h => by first | rfl | exact f4 (by simpa using h)), (fun _ => rfl), (fun h => by first | rfl | exact f6 (by simpa using h)), (fun h => by obtain ⟨_, _, _, _, _, g1, g2, g3⟩ := f7 (by simpa using h); exact ⟨_, _, _, _, _, g1, g2, g3⟩), (fun h => by obtain ⟨_, _, _, _, _, g1, g2, g3⟩ := f8 (by simpa using h); exact ⟨_, _, _, _, _, g1, g2, g3⟩), (fun h => by obtain ⟨_, _, _, _, _, g1, g2, g3, g4⟩ := f9 (by simpa using h); exact ⟨_, _, _, _, _, g1, g2, g3, fun h => g4 (by simpa using h)⟩), (fun h => by have := o10 (by simpa using h); simp [this])⟩
              · refine wpOp_list rfl ?_
                go_wp2
                exact ⟨_, _, _, _, _, _, _, _, _, _, rfl, hbw', (fun h => by first | rfl | exact f0 (by simpa using h)), (fun h => by first | rfl | exact f1 (by simpa using h)), (fun h => by first | rfl | exact f2 (by simpa using h)), (fun h => by first | rfl | exact f3 (by simpa using h)), (fun h => by first | rfl | exact f4 (by simpa using h)), (fun h => by first | rfl | exact f5 (by simpa using h)), (fun _ => rfl), (fun h => by obtain ⟨_, _, _, _, _, g1, g2, g3⟩ := f7 (by simpa using h); exact ⟨_, _, _, _, _, g1, g2, g3⟩), (fun h => by obtain ⟨_, _, _, _, _, g1, g2, g3⟩ := f8 (by simpa using h); exact ⟨_, _, _, _, _, g1, g2, g3⟩), (fun h => by obtain ⟨_, _, _, _, _, g1, g2, g3, g4⟩ := f9 (by simpa using h); exact ⟨_, _, _, _, _, g1, g2, g3, fun h => g4 (by simpa using h)⟩), (fun h => by have := o10 (by simpa using h); simp [this])⟩
              · simp [depsB, Region.binds] at hd
                obtain rfl := f6 (by simp [hd])
                refine wpOp_list rfl ?_
                go_wp2_with fail
                refine (HCALL.out _ hbw').mono ?_
                rintro e w5 ⟨ng5, p5', n5, c5', xs5, rfl, hx5, hn5, hb5⟩
                go_wp2_with fail
                exact ⟨_, _, _, _, _, _, _, _, _, _, rfl, hbw'.trans (hb5.mono hbw'.size), (fun h => by first | rfl | exact f0 (by simpa using h)), (fun h => by first | rfl | exact f1 (by simpa using h)), (fun h => by first | rfl | exact f2 (by simpa using h)), (fun h => by first | rfl | exact f3 (by simpa using h)), (fun h => by first | rfl | exact f4 (by simpa using h)), (fun h => by first | rfl | exact f5 (by simpa using h)), (fun h => by first | rfl | exact f6 (by simpa using h)), (fun _ => ⟨_, _, _, _, _, rfl, hx5, hn5⟩), (fun h => by obtain ⟨_, _, _, _, _, g1, g2, g3⟩ := f8 (by simpa using h); exact ⟨_, _, _, _, _, g1, g2.below hb5, g3⟩), (fun h => by obtain ⟨_, _, _, _, _, g1, g2, g3, g4⟩ := f9 (by simpa using h); exact ⟨_, _, _, _, _, g1, g2, g3.below hb5 g3.lt, fun h => (by obtain ⟨ys, r1, r2⟩ := g4 (by simpa using h); exact ⟨ys, r1.below hb5, r2⟩)⟩), (fun h => by have := o10 (by simpa using h); simp [this])⟩
              · simp [depsB, Region.binds] at hd
                obtain rfl := f5 (by simp [hd])
                obtain ⟨ng5, p5', n5, c5', xs5, rfl, hx5, hn5⟩ := f7 (by simp [hd])
                refine wpOp_list rfl ?_
                go_wp2_with fail
                refine (rmul_any _ _ _ _ _ _ _ _ xs9 xs5 _ _ _ (by omega) (by unfold DL at hn5; omega) (HX9.out.below hbw') hx5).mono ?_
                rintro e w6 ⟨ng6, p6', n6, c6', xs6, rfl, hx6, hn6, hb6⟩
                go_wp2_with fail
                exact ⟨_, _, _, _, _, _, _, _, _, _, rfl, hbw'.trans (hb6.mono hbw'.size), (fun h => by first | rfl | exact f0 (by simpa using h)), (fun h => by first | rfl | exact f1 (by simpa using h)), (fun h => by first | rfl | exact f2 (by simpa using h)), (fun h => by first | rfl | exact f3 (by simpa using h)), (fun h => by first | rfl | exact f4 (by simpa using h)), (fun h => by first | rfl | exact f5 (by simpa using h)), (fun h => by first | rfl | exact f6 (by simpa using h)), (fun _ => ⟨_, _, _, _, _, rfl, hx5.below hb6, hn5⟩), (fun _ => ⟨_, _, _, _, _, rfl, hx6, by omega⟩), (fun h => by obtain ⟨_, _, _, _, _, g1, g2, g3, g4⟩ := f9 (by simpa using h); exact ⟨_, _, _, _, _, g1, g2, g3.below hb6 g3.lt, fun h => (by obtain ⟨ys, r1, r2⟩ := g4 (by simpa using h); exact ⟨ys, r1.below hb6, r2⟩)⟩), (fun h => by have := o10 (by simpa using h); simp [this])⟩
              · have hS10 : S 10 = false := by
                  cases h : S 10
                  · rfl
                  · rw [o10 h] at hS; cases hS
                have hbA : Below w'.heap.size w' (w'.alloc (.cells #[.bool false, .slice none 0 0] 82)) := (Below.refl _ _).alloc (Nat.le_refl _) _
                refine wpOp_list rfl ?_
                go_wp2
                exact ⟨_, _, _, _, _, _, _, _, _, _, rfl, hbw'.trans (hbA.mono hbw'.size), (fun h => by first | rfl | exact f0 (by simpa using h)), (fun h => by first | rfl | exact f1 (by simpa using h)), (fun h => by first | rfl | exact f2 (by simpa using h)), (fun h => by first | rfl | exact f3 (by simpa using h)), (fun h => by first | rfl | exact f4 (by simpa using h)), (fun h => by first | rfl | exact f5 (by simpa using h)), (fun h => by first | rfl | exact f6 (by simpa using h)), (fun h => by obtain ⟨_, _, _, _, _, g1, g2, g3⟩ := f7 (by simpa using h); exact ⟨_, _, _, _, _, g1, g2.below hbA, g3⟩), (fun h => by obtain ⟨_, _, _, _, _, g1, g2, g3⟩ := f8 (by simpa using h); exact ⟨_, _, _, _, _, g1, g2.below hbA, g3⟩), (fun _ => ⟨_, _, _, _, _, rfl, hbw'.size, Boxed2.new _ _ _ _, fun h => by simp [hS10] at h⟩), (fun h => by simp)⟩
              · simp [depsB, Region.binds] at hd
                obtain ⟨ng6, p6', n6, c6', xs6, rfl, hx6, hn6⟩ := f8 (by simp [hd])
                obtain ⟨B8, a8, q8, k8, d8, rfl, e2, e3, e4⟩ := f9 (by simp [hd])
                have k0 := e3.cell0
                have k1 := e3.cell1
                have q0 := e3.frozen (i := 0)
                have q1 := e3.frozen (i := 1)
                refine wpOp_list rfl ?_
                go_wp2
                exact ⟨_, _, _, _, _, _, _, _, _, _, rfl, (hbw'.setCell e2 _).setCell e2 _, (fun h => by first | rfl | exact f0 (by simpa using h)), (fun h => by first | rfl | exact f1 (by simpa using h)), (fun h => by first | rfl | exact f2 (by simpa using h)), (fun h => by first | rfl | exact f3 (by simpa using h)), (fun h => by first | rfl | exact f4 (by simpa using h)), (fun h => by first | rfl | exact f5 (by simpa using h)), (fun h => by first | rfl | exact f6 (by simpa using h)), (fun h => by obtain ⟨_, _, _, _, _, g1, g2, g3⟩ := f7 (by simpa using h); exact ⟨_, _, _, _, _, g1, g2.set2 e3 _ _, g3⟩), (fun h => ⟨_, _, _, _, _, rfl, hx6.set2 e3 _ _, hn6⟩), (fun h => ⟨_, _, _, _, _, rfl, e2, e3.set _ _, fun _ => ⟨xs6, hx6.set2 e3 _ _, hn6⟩⟩), (fun _ => by simp [hd])⟩
              · simp at ho; omega
            case done =>
              rintro S a' w' hall ⟨v8, v45, v46, v47, v48, v49, v50, v51, v52, v53, rfl, hbw', f0, f1, f2, f3, f4, f5, f6, f7, f8, f9, o10⟩
              obtain ⟨B8, a8, q8, k8, d8, rfl, e2, e3, e4⟩ := f9 (hall 9 (by decide))
              obtain ⟨xs8, r1, r2⟩ := e4 (hall 10 (by decide))
              go_wp2
              go_meet
              exact ⟨B8, a8, q8, k8, d8, xs8, rfl, e2, e3, r1, r2, hbw'⟩
          case rest =>
          obtain ⟨B8, a8, q8, k8, d8, xs8, rfl, e2, b8, H8, hk8, hb8⟩ := hcut
          have b2 := b2w.below hb8 b2w.lt
          have b3 := b3w.below hb8 b3w.lt
          have hY := HYW.out.below hb8
          have hbc := hbw.trans (hb8.mono hbw.size)
          have hstep : altS r0 f (c + 1) = altS r0 f c + (if c % 2 = 1 then -(ent r0 c * f c) else ent r0 c * f c) := rfl
          have hBw : w.heap.size + 1 < B8 := Nat.lt_of_lt_of_le b3w.lt e2
          have h8 := H8.out
          clear b2w b3w hc00 e90w e91w HCALL HX9 HYW H8
          have k0 := b8.cell0
          have k1 := b8.cell1
          have y0 := b3.cell0
          have y1 := b3.cell1
          by_cases hpar : c % 2 = 1
          · have hpi : (c : Int) % 2 = 1 := by omega
            rw [if_pos hpar] at hstep
            have HST := Lib.hid hstep
            clear hstep
            go_wp2_with fail
            refine (rneg_any a8 q8 k8 d8 xs8 _ _ (by unfold DL at hk8; omega) h8).mono ?_
            rintro e w6 ⟨ng6, p6, n6, c6, xs6, rfl, h6, hn6, hb6'⟩
            have hb6 := hbc.trans (hb6'.mono hbc.size)
            have b8 := b8.below hb6' b8.lt
            have b2 := b2.below hb6' b2.lt
            have b3 := b3.below hb6' b3.lt
            have hY := (hY.below hb6').set2 b8 ng6 (.slice p6 n6 c6)
            have h8 := h6.set2 b8 ng6 (.slice p6 n6 c6)
            have k0 := b8.cell0
            have k1 := b8.cell1
            have q0 := b8.frozen (i := 0)
            have q1 := b8.frozen (i := 1)
            have b8s := b8.set (.bool ng6) (.slice p6 n6 c6)
            have b2s := (b2.setOther (C := B8) (i := 0) (.bool ng6) (by omega)).setOther (C := B8) (i := 1) (.slice p6 n6 c6) (by omega)
            have b3s := (b3.setOther (C := B8) (i := 0) (.bool ng6) (by omega)).setOther (C := B8) (i := 1) (.slice p6 n6 c6) (by omega)
            have hbs := (hb6.setCell (p := ⟨B8, 0, none⟩) (by simp only; omega) (.bool ng6)).setCell (p := ⟨B8, 1, none⟩) (by simp only; omega) (.slice p6 n6 c6)
            have m0 := b8s.cell0
            have m1 := b8s.cell1
            have m2 := b3s.cell0
            have m3 := b3s.cell1
            go_wp2_with fail
            clear k0 k1 y0 y1 q0 q1 m0 m1 m2 m3
            generalize hWS : ((w6.setCell ⟨B8, 0, none⟩ (.bool ng6)).setCell ⟨B8, 1, none⟩ (.slice p6 n6 c6)) = wS at *
            clear hWS
            refine (radd_any ng ng6 q p6 m d n6 c6 ys xs6 _ _ _ (by unfold DL at hm; omega) (by unfold DL at hk8; omega) hY h8).mono ?_
            rintro e w7 ⟨ng7, p7, n7, c7, xs7, rfl, h7, hn7, hb7'⟩
            have hb7 := hbs.trans (hb7'.mono hbs.size)
            have b2s := b2s.below hb7' b2s.lt
            have b3s := b3s.below hb7' b3s.lt
            rw [← HST.out] at h7
            have h7 := h7.set2 b3s ng7 (.slice p7 n7 c7)
            have H7 := Lib.hid h7
            have y0 := b3s.cell0
            have y1 := b3s.cell1
            have q0 := b3s.frozen (i := 0)
            have q1 := b3s.frozen (i := 1)
            have b3t := b3s.set (.bool ng7) (.slice p7 n7 c7)
            have b2t := (b2s.setOther (C := w.heap.size + 1) (i := 0) (.bool ng7) (by omega)).setOther (C := w.heap.size + 1) (i := 1) (.slice p7 n7 c7) (by omega)
            have hbt := (hb7.setCell (p := ⟨w.heap.size + 1, 0, none⟩) (by simp) (.bool ng7)).setCell (p := ⟨w.heap.size + 1, 1, none⟩) (by simp) (.slice p7 n7 c7)
            clear h7
            go_wp2_with fail
            go_roundg (N - (c + 1))
            case measure => rw [HGK.out]; omega
            case rel => exact ⟨c + 1, ng7, p7, n7, c7, xs7, by omega, rfl, by go_num, b2t, b3t, H7, by omega, hbt⟩
          · have hpi : (c : Int) % 2 = 0 := by omega
            rw [if_neg hpar] at hstep
            have HST := Lib.hid hstep
            clear hstep
            have b8s := b8
            have b2s := b2
            have b3s := b3
            have hbs := hbc
            go_wp2_with fail
            refine (radd_any ng a8 q q8 m d k8 d8 ys xs8 _ _ _ (by unfold DL at hm; omega) (by unfold DL at hk8; omega) hY h8).mono ?_
            rintro e w7 ⟨ng7, p7, n7, c7, xs7, rfl, h7, hn7, hb7'⟩
            have hb7 := hbs.trans (hb7'.mono hbs.size)
            have b2s := b2s.below hb7' b2s.lt
            have b3s := b3s.below hb7' b3s.lt
            rw [← HST.out] at h7
            have h7 := h7.set2 b3s ng7 (.slice p7 n7 c7)
            have H7 := Lib.hid h7
            have y0 := b3s.cell0
            have y1 := b3s.cell1
            have q0 := b3s.frozen (i := 0)
            have q1 := b3s.frozen (i := 1)
            have b3t := b3s.set (.bool ng7) (.slice p7 n7 c7)
            have b2t := (b2s.setOther (C := w.heap.size + 1) (i := 0) (.bool ng7) (by omega)).setOther (C := w.heap.size + 1) (i := 1) (.slice p7 n7 c7) (by omega)
            have hbt := (hb7.setCell (p := ⟨w.heap.size + 1, 0, none⟩) (by simp) (.bool ng7)).setCell (p := ⟨w.heap.size + 1, 1, none⟩) (by simp) (.slice p7 n7 c7)
            clear h7
            go_wp2_with fail
            go_roundg (N - (c + 1))
            case measure => rw [HGK.out]; omega
            case rel => exact ⟨c + 1, ng7, p7, n7, c7, xs7, by omega, rfl, by go_num, b2t, b3t, H7, by omega, hbt⟩
    · have hci : ¬ (c : Int) < (N : Int) := by omega
      obtain rfl : c = N := by omega
      have y0 := b3.cell0
      have y1 := b3.cell1
      have z0 := b2.cell0
      have z1 := b2.cell1
      have q0 := b2.frozen (i := 0)
      have q1 := b2.frozen (i := 1)
      go_wp2_with fail
      have rS := b2.set (.bool ng) (.slice q m d)
      have z0 := rS.cell0
      have z1 := rS.cell1
      refine bodyPost_ret (v := .agg #[.bool ng, .slice q m d]) (by simp [results, Try.results59, go_sem, z0, z1]) rfl ⟨ng, q, m, d, ys, rfl, HY.out.set2 b2 ng (.slice q m d), by unfold DL at hm ⊢; omega, ?_⟩
      exact (hb.setCell (p := ⟨w.heap.size, 0, none⟩) (by simp) (.bool ng)).setCell (p := ⟨w.heap.size, 1, none⟩) (by simp) (.slice q m d)

theorem rdet_any : ∀ n, n ≤ 6 → RDetC n
  | 0, _ => rdet_zero
  | n + 1, h => rdet_succ n h (rdet_any n (by omega))

end Go.Proofs.Ythdhakpmhndbfaa

namespace Go.Proofs.Ythdhakpmhndbfaa

theorem small_quot {x y : Int} (h0 : y ≠ 0) :
    (x.tmod y < 0 → (0 < y → x.tdiv y - 1 = x / y) ∧ (y < 0 → x.tdiv y + 1 = x / y) ∧ x.tmod y + (y.natAbs : Int) = x % y) ∧ (¬ x.tmod y < 0 → x.tdiv y = x / y ∧ x.tmod y = x % y) := by
  have e1 := Int.mul_tdiv_add_tmod x y
  have e2 := Int.mul_ediv_add_emod x y
  have h1 := Int.emod_nonneg x h0
  have h2 : x % y < y.natAbs := Int.emod_lt x h0
  have h3 : (x.tmod y).natAbs < y.natAbs := by
    rw [Int.natAbs_tmod]; exact Nat.mod_lt _ (by omega)
  generalize x.tdiv y = q at *
  generalize x.tmod y = r at *
  generalize x / y = Q at *
  generalize x % y = R at *
  have key : y * (q - Q) = R - r := by grind
  have hb : ∀ k : Int, y * (q - Q) = R - r → (q - Q) = k → y * k = R - r := fun k h hk => by rw [← hk]; exact h
  have hd : q - Q ≤ 1 ∧ -1 ≤ q - Q := by
    constructor
    · rcases Int.lt_or_le 1 (q - Q) with h | h
      · exfalso
        have : 2 * y.natAbs ≤ (y * (q - Q)).natAbs := by rw [Int.natAbs_mul, Nat.mul_comm]; exact Nat.mul_le_mul_left _ (by omega)
        omega
      · exact h
    · rcases Int.lt_or_le (q - Q) (-1) with h | h
      · exfalso
        have : 2 * y.natAbs ≤ (y * (q - Q)).natAbs := by rw [Int.natAbs_mul, Nat.mul_comm]; exact Nat.mul_le_mul_left _ (by omega)
        omega
      · exact h
  have cases3 : q - Q = -1 ∨ q - Q = 0 ∨ q - Q = 1 := by omega
  rcases cases3 with h | h | h <;> rw [h] at key <;> constructor <;> intro hr <;> (try refine ⟨fun hy => ?_, fun hy => ?_, ?_⟩) <;> (try refine ⟨?_, ?_⟩) <;> omega

/-- One digit of a quotient, by halving. -/
def Bis (C r lo hi : Nat) : Prop := lo ≤ hi ∧ hi ≤ 9999 ∧ C * lo ≤ r ∧ r < C * (hi + 1)

theorem Bis.start {C r : Nat} (h : r < C * 10000) : Bis C r 0 9999 := ⟨by omega, by omega, by simp, h⟩
theorem Bis.up {C r lo hi m : Nat} (h : Bis C r lo hi) (hm : m = (lo + hi + 1) / 2) (hlt : lo < hi) (hle : C * m ≤ r) : Bis C r m hi := ⟨by omega, h.2.1, hle, h.2.2.2⟩
theorem Bis.down {C r lo hi m : Nat} (h : Bis C r lo hi) (hm : m = (lo + hi + 1) / 2) (hlt : lo < hi) (hle : ¬ C * m ≤ r) : Bis C r lo (m - 1) := by
  refine ⟨by omega, by have := h.2.1; omega, h.2.2.1, ?_⟩
  have : m - 1 + 1 = m := by omega
  rw [this]; omega
theorem Bis.done {C r lo hi : Nat} (h : Bis C r lo hi) (hlt : ¬ lo < hi) : C * lo ≤ r ∧ r - C * lo < C ∧ lo ≤ 9999 := by
  have e : lo = hi := by have := h.1; omega
  subst e
  obtain ⟨_, h2, h3, h4⟩ := h
  rw [Nat.mul_add] at h4
  omega

/-- One more digit of a quotient. -/
theorem quot_step {B C Q R a up low : Nat} (h : up = Q * C + R) (hl : C * low ≤ a + B * R) : a + B * up = (low + B * Q) * C + (a + B * R - C * low) := by
  have e1 : B * up = B * Q * C + B * R := by rw [h, Nat.mul_add, Nat.mul_assoc]
  have e2 : (low + B * Q) * C = low * C + B * Q * C := by rw [Nat.add_mul]
  have e3 : C * low = low * C := Nat.mul_comm _ _
  omega

theorem quot_room {B C R a : Nat} (hR : R < C) (ha : a < B) : a + B * R < C * B := by
  have : (R + 1) * B ≤ C * B := Nat.mul_le_mul_right _ hR
  rw [Nat.add_mul, Nat.mul_comm R B] at this
  omega

theorem quot_uniq {x y q r : Int} (h : y * q + r = x) (h0 : 0 ≤ r) (h1 : r < y.natAbs) : x / y = q ∧ x % y = r := by
  have hy : y ≠ 0 := by intro e; rw [e] at h1; simp at h1; omega
  have e2 := Int.mul_ediv_add_emod x y
  have g1 := Int.emod_nonneg x hy
  have g2 : x % y < y.natAbs := Int.emod_lt x hy
  generalize x / y = q' at *
  generalize x % y = r' at *
  have key : y * (q' - q) = r - r' := by grind
  have hq : q' - q = 0 := by
    rcases Nat.eq_zero_or_pos (q' - q).natAbs with h | h
    · omega
    · exfalso
      have : y.natAbs * 1 ≤ (y * (q' - q)).natAbs := by rw [Int.natAbs_mul]; exact Nat.mul_le_mul_left _ h
      omega
  rw [hq] at key
  omega

/-- Quotient and remainder out of those of the absolute values. -/
theorem signed_quot {x y : Int} {Q R C : Nat} (a b : Bool) (ha : a = true ↔ x < 0) (hb : b = true ↔ y < 0) (hC : C = y.natAbs) (h : x.natAbs = Q * C + R) (hR : R < C) :
    ((a = false ∨ R = 0) → x / y = (if (a != b) then -(Q : Int) else (Q : Int)) ∧ x % y = R) ∧
    (a = true → R ≠ 0 → x / y = (if b then (Q : Int) + 1 else -(Q : Int) - 1) ∧ x % y = (C : Int) - R) := by
  have hQC : ((Q * C + R : Nat) : Int) = (C : Int) * (Q : Int) + R := by rw [Int.natCast_add, Int.natCast_mul, Int.mul_comm]
  have hxa : a = false → x = (C : Int) * (Q : Int) + R := fun e => by rw [← hQC, ← h]; rw [e] at ha; simp at ha; omega
  have hxb : a = true → x = -((C : Int) * (Q : Int) + R) := fun e => by rw [← hQC, ← h]; have := ha.1 e; omega
  have hya : b = false → y = (C : Int) := fun e => by rw [e] at hb; simp at hb; omega
  have hyb : b = true → y = -(C : Int) := fun e => by have := hb.1 e; omega
  refine ⟨fun hc => ?_, fun e hR0 => ?_⟩
  · cases a
    · cases b
      · refine quot_uniq ?_ (by omega) (by omega)
        rw [hya rfl, hxa rfl]; simp
      · refine quot_uniq ?_ (by omega) (by omega)
        rw [hyb rfl, hxa rfl]; simp; try grind
    · have hR0 : R = 0 := by
        rcases hc with h | h
        · cases h
        · exact h
      subst hR0
      cases b
      · refine quot_uniq ?_ (by omega) (by omega)
        rw [hya rfl, hxb rfl]; simp; try grind
      · refine quot_uniq ?_ (by omega) (by omega)
        rw [hyb rfl, hxb rfl]; simp; try grind
  · subst e
    cases b
    · refine quot_uniq ?_ (by omega) (by omega)
      rw [hya rfl, hxb rfl]; simp; grind
    · refine quot_uniq ?_ (by omega) (by omega)
      rw [hyb rfl, hxb rfl]; simp; grind

end Go.Proofs.Ythdhakpmhndbfaa

namespace Go.Proofs.Ythdhakpmhndbfaa
open Go.RowKit

theorem append_none_any {P : Program} {W : World} {base : Nat} {t ty e : TypeId} {i : TypeInfo} {size : Nat} (ht : P.underlying t = some (.slice e)) (hi : P.info? e = some i) {v : Value} {n : Nat} {xs : List Value} (h : W.ownsRow base e size v n xs) (c : Nat) :
    (Builtin.append_ #[t, t] ty #[v, .slice none 0 c]).run P W = .ok v W := by
  rcases h.2 with ⟨rfl, rfl⟩ | ⟨g, cap, cur, rfl, _, _, hc, _⟩
  · simp [Builtin.append_, run_underlying ht, sizeOf, typeInfo, hi, Builtin.lenOf, Builtin.firstCells]
  · simp [Builtin.append_, run_underlying ht, sizeOf, typeInfo, hi, Builtin.lenOf, Builtin.firstCells, hc, storeCells]

theorem appI_law {ops : Array Oper} {Q : Exit → Act → World → Prop} {o : Oper} {rest : List Oper} {a : Act} {W : World} (hgd : o.guard = none) (s x : Operand)
    (ho : o.op = .call { callee := .builtin .append, args := #[s, x], argTypes := #[80, 80] }) {base : Nat} {v : Value} {ns : List Nat} (hs : a.eval s = v) (h : GrI W base v ns)
    {p : Option Addr} {m c : Nat} {xs : List Nat} (hx : a.eval x = .slice p m c) (hr : Rd .i64 W p m xs) (hl : ns.length ≤ 1000000000) (hm : m ≤ 1000000000) (hbase : base ≤ W.heap.size)
    (k : ∀ v' w', GrI w' base v' (ns ++ xs) → Below base W w' → wpList Try.prog ops Q rest (a.put o.dst v') w') : wpList Try.prog ops Q (o :: rest) a W := by
  obtain ⟨i0, hi, hz0, hz1, hz2⟩ := info_parts Try.info3
  cases p with
  | none =>
    have hm0 : m = 0 := by
      rcases Nat.eq_zero_or_pos m with e | e
      · exact e
      · obtain ⟨b, off, hp, _⟩ := hr.2 0 e; cases hp
    subst hm0
    have hxs : xs = [] := List.length_eq_zero_iff.1 hr.1
    subst hxs
    refine wpList_plain hgd fun K hK => ?_
    have hrun := append_none_any (P := Try.prog) (ty := o.type) Try.underlying80 hi h c
    unfold Oper.wp
    simp [execOp, ho, resolve, invoke, builtin, hs, hx, hrun, Result.andThen]
    exact hK _ _ (k v W (by rw [List.append_nil]; exact h) ((Below.refl _ _).mono hbase))
  | some ad =>
    refine wpList_append_own _ hgd s x 80 ho base 3 i0 (.int .i64 0) 1 8 Try.underlying80 hi hz0 hz1 hz2 rfl (by decide) v ns.length (icells ns) hs h ad m c (icells xs) hx (by unfold icells; rw [List.length_map, hr.1, Nat.mul_one])
      ?_ (by intro u hu; unfold icells at hu; obtain ⟨y, _, rfl⟩ := List.mem_map.1 hu; rfl) (by unfold maxLen; omega) (by omega) hbase ?_
    · intro j u hj
      unfold icells at hj
      rw [List.getElem?_map, Option.map_eq_some_iff] at hj
      obtain ⟨y, hy, rfl⟩ := hj
      obtain ⟨b, off, hp, _, hc⟩ := hr.2 j (by have := (List.getElem?_eq_some_iff.1 hy).1; rw [hr.1] at this; exact this)
      cases hp
      rw [hy] at hc
      rw [Lib.add_plain]
      exact hc
    · intro v' w' h2 h3 _
      refine k v' w' ?_ (below_of_own h h3 hbase)
      unfold GrI
      rw [List.length_append, icells_append, hr.1]
      exact h2

/-- A new row of one digit. -/
theorem GrI.one (W : World) (d : Nat) : GrI (W.alloc (.cells #[.int .i64 (d : Int)] 3)) W.heap.size (.slice (some ⟨W.heap.size, 0, none⟩) 1 1) [d] := by
  refine ⟨rfl, .inr ⟨W.heap.size, 1, #[.int .i64 (d : Int)], rfl, Nat.le_refl _, by unfold World.alloc; simp, Nat.le_refl _, by unfold maxLen; omega, rfl, rfl⟩⟩

end Go.Proofs.Ythdhakpmhndbfaa

namespace Go.Proofs.Ythdhakpmhndbfaa
open Go.RowKit
attribute [local go_sem] Oper.semAt_some

theorem RIs.lt {w : World} {neg : Bool} {p : Option Addr} {n c : Nat} {xs : List Nat} {z : Int} (h : RIs w neg p n c xs z) : z.natAbs < BR ^ n := by
  have h1 := dv_lt h.cn.1
  rw [h.rd.1] at h1
  rw [h.val, sv_natAbs]
  exact h1
theorem RIs.len_le {w : World} {neg : Bool} {p : Option Addr} {n c : Nat} {xs : List Nat} {z : Int} (h : RIs w neg p n c xs z) {L : Nat} (hz : z.natAbs < BR ^ L) : n ≤ L := by
  have := h.cn.length_le (b := BR) (by decide) (m := L) (by rw [h.val, sv_natAbs] at hz; exact hz)
  rw [h.rd.1] at this
  exact this
theorem RIs.neg_iff {w : World} {neg : Bool} {p : Option Addr} {n c : Nat} {xs : List Nat} {z : Int} (h : RIs w neg p n c xs z) : neg = true ↔ z < 0 := by
  have hp : 0 < n → 0 < dv BR xs := fun e => h.cn.pos (by decide) (by intro e2; have := h.rd.1; rw [e2] at this; simp at this; omega)
  have hv := h.val
  constructor
  · intro e
    have := hp (h.pos e)
    rw [hv, e]
    simp [sv]; omega
  · intro e
    cases neg
    · rw [hv] at e; simp [sv] at e; omega
    · rfl
theorem RIs.zero_iff {w : World} {neg : Bool} {p : Option Addr} {n c : Nat} {xs : List Nat} {z : Int} (h : RIs w neg p n c xs z) : z = 0 ↔ n = 0 := by
  constructor
  · intro e
    have := h.len_le (L := 0) (by rw [e]; simp)
    omega
  · intro e
    have := h.lt
    rw [e] at this
    simp at this
    exact this

theorem RIs.setAt {W : World} {neg : Bool} {p : Option Addr} {n c : Nat} {xs : List Nat} {z : Int} (h : RIs W neg p n c xs z) {B i : Nat} {u : Value} (hu : W.cell? ⟨B, i, none⟩ = some u) (hne : ∀ x, u ≠ .int .i64 x) (v : Value) : RIs (W.setCell ⟨B, i, none⟩ v) neg p n c xs z := { h with rd := h.rd.setOther hu hne v }
/-- A number is stored into a variable. -/
theorem RIs.setBox {W : World} {neg : Bool} {p : Option Addr} {n c : Nat} {xs : List Nat} {z : Int} (h : RIs W neg p n c xs z) {B : Nat} {b0 : Bool} {p0 : Option Addr} {n0 c0 : Nat} {t : TypeId} (hk : Blk W B #[.bool b0, .slice p0 n0 c0] t) (b1 : Bool) (v1 : Value) : RIs ((W.setCell ⟨B, 0, none⟩ (.bool b1)).setCell ⟨B, 1, none⟩ v1) neg p n c xs z :=
  (h.setAt (hk.cell (i := 0) rfl) (by intro x e; cases e) _).setAt ((hk.set_eq 0 (.bool b1) rfl).cell (i := 1) rfl) (by intro x e; cases e) _

/-- What a division hands back. -/
def DivR (w : World) (x y : Int) (e : Ending) (w' : World) : Prop :=
  ∃ a p n c xs b q m d ys, e = .returned (.tuple #[.agg #[.bool a, .slice p n c], .agg #[.bool b, .slice q m d]]) ∧ RIs w' a p n c xs (x / y) ∧ RIs w' b q m d ys (x % y) ∧ Below w.heap.size w w'

set_option maxRecDepth 100000 in
set_option maxHeartbeats 2000000 in
theorem rabs_any (neg : Bool) (p : Option Addr) (n c : Nat) (xs : List Nat) (z : Int) (w : World) (hn : n ≤ 1000000000) (hx : RIs w neg p n c xs z) :
    Calls Try.prog 96 #[.agg #[.bool neg, .slice p n c]] w (RV w (z.natAbs : Int) n) := by
  have hb0 : Below w.heap.size w ((w.alloc (.cells #[.bool neg, .slice p n c] 82)).alloc (.cells #[.bool false, .slice none 0 0] 82)) := ((Below.refl _ w).alloc (Nat.le_refl _) _).alloc (by simp) _
  have b1 : Boxed2 ((w.alloc (.cells #[.bool neg, .slice p n c] 82)).alloc (.cells #[.bool false, .slice none 0 0] 82)) (w.heap.size + 1) (.bool false) (.slice none 0 0) 82 := by
    have := Boxed2.new (w.alloc (.cells #[.bool neg, .slice p n c] 82)) (.bool false) (.slice none 0 0) 82
    simpa using this
  have hx1 := hx.below hb0
  have HX := Lib.hid hx
  go_enter Try.func96, Try.ntmps96
  go_wp2_with (go_at_call 75; refine (rnumber_any _ _ _ _ xs _ (by unfold maxLen; omega) hx1.cap hx1.rd hx1.cn.1).mono ?_; rintro e w2 ⟨neg2, p2, n2, c2, xs2, rfl, hx2, hn2, hb2⟩; have b2 := b1.below hb2 b1.lt; have c20 := b2.cell0; have c21 := b2.cell1; have q20 := b2.frozen (i := 0); have q21 := b2.frozen (i := 1))
  have b3 := b2.set (.bool neg2) (.slice p2 n2 c2)
  have z0 := b3.cell0
  have z1 := b3.cell1
  refine bodyPost_ret (v := .agg #[.bool neg2, .slice p2 n2 c2]) (by simp [results, Try.results96, go_sem, z0, z1]) rfl ⟨neg2, p2, n2, c2, xs2, rfl, { rd := (hx2.rd.boxI b2 _).boxI (b2.set0 _) _, cap := hx2.cap, cn := hx2.cn, pos := hx2.pos, val := ?_ }, hn2, ((hb0.trans (hb2.mono hb0.size)).setCell (by simp) _).setCell (by simp) _⟩
  rw [← hx2.val, HX.out.val, sv_natAbs]
  rfl

theorem ten16 : BR ^ 4 = 10000000000000000 := by decide
theorem RIs.int {w : World} {neg : Bool} {p : Option Addr} {n c : Nat} {xs : List Nat} {z : Int} (h : RIs w neg p n c xs z) (hn : n ≤ 4) : inI64 z = true ∧ intV z = z ∧ -10000000000000000 < z ∧ z < 10000000000000000 := by
  have h1 := h.lt
  have h2 : BR ^ n ≤ BR ^ 4 := Nat.pow_le_pow_right (by decide) hn
  rw [ten16] at h2
  have h3 : inI64 z = true := by unfold inI64; simp; omega
  refine ⟨h3, ?_, by omega, by omega⟩
  unfold intV
  rw [h3]
  rfl

set_option maxRecDepth 100000 in
set_option maxHeartbeats 4000000 in
theorem rdiv_small (a b : Bool) (p q : Option Addr) (n c m d : Nat) (xs ys : List Nat) (x y : Int) (w : World) (hn : n ≤ 4) (hm : m ≤ 4) (hx : RIs w a p n c xs x) (hy : RIs w b q m d ys y) (hy0 : y ≠ 0) :
    Calls Try.prog 73 #[.agg #[.bool a, .slice p n c], .agg #[.bool b, .slice q m d]] w (DivR w x y) := by
  obtain ⟨ix, vx, x0, x1⟩ := hx.int hn
  obtain ⟨iy, vy, y0, y1⟩ := hy.int hm
  obtain ⟨s1, s2⟩ := small_quot (x := x) hy0
  have hni : (n : Int) ≤ 4 := by omega
  have hmi : (m : Int) ≤ 4 := by omega
  obtain ⟨w1, hw1⟩ : ∃ w1, ((((w.alloc (.cells #[.bool a, .slice p n c] 82)).alloc (.cells #[.bool b, .slice q m d] 82)).alloc (.cells #[.bool false, .slice none 0 0] 82)).alloc (.cells #[.bool false, .slice none 0 0] 82)) = w1 := ⟨_, rfl⟩
  have hb1 : Below w.heap.size w w1 := by
    rw [← hw1]
    exact ((((Below.refl _ w).alloc (Nat.le_refl _) _).alloc (by simp) _).alloc (by rw [World.size_alloc, World.size_alloc]; omega) _).alloc (by rw [World.size_alloc, World.size_alloc, World.size_alloc]; omega) _
  have k0 : Blk w1 w.heap.size #[.bool a, .slice p n c] 82 := by
    rw [← hw1]; exact (((Blk.new w _ _).alloc _).alloc _).alloc _
  have k1 : Blk w1 (w.heap.size + 1) #[.bool b, .slice q m d] 82 := by
    rw [← hw1]; exact ((Blk.new' _ _ _ (by simp)).alloc _).alloc _
  have k2 : Blk w1 (w.heap.size + 1 + 1) #[.bool false, .slice none 0 0] 82 := by
    rw [← hw1]; exact (Blk.new' _ _ _ (by simp)).alloc _
  have k3 : Blk w1 (w.heap.size + 1 + 1 + 1) #[.bool false, .slice none 0 0] 82 := by
    rw [← hw1]; exact Blk.new' _ _ _ (by simp)
  have c0 := k0.cell (i := 0) rfl
  have c1 := k0.cell (i := 1) rfl
  have c2 := k1.cell (i := 0) rfl
  have c3 := k1.cell (i := 1) rfl
  have hx1 := hx.below hb1
  have hy1 := hy.below hb1
  go_enter Try.func73, Try.ntmps73
  go_wp2_with fail
  refine (rint_any a p n c xs x _ (by omega) hx1).mono ?_
  rintro e w2 ⟨rfl, hb2⟩
  rw [ix, vx]
  have k1 := k1.kept hb2
  have c2 := k1.cell (i := 0) rfl
  have c3 := k1.cell (i := 1) rfl
  have hy2 := hy1.below hb2
  go_wp2_with fail
  refine (rint_any b q m d ys y _ (by omega) hy2).mono ?_
  rintro e w3 ⟨rfl, hb3⟩
  rw [iy, vy]
  have hbw := (hb1.trans (hb2.mono hb1.size)).trans (hb3.mono (Nat.le_trans hb1.size hb2.size))
  have k2 := (k2.kept hb2).kept hb3
  have k3 := (k3.kept hb2).kept hb3
  obtain ⟨M, hM⟩ : ∃ M, x.tdiv y = M := ⟨_, rfl⟩
  obtain ⟨N, hN⟩ : ∃ N, x.tmod y = N := ⟨_, rfl⟩
  have bM : M.natAbs ≤ x.natAbs := by rw [← hM, Int.natAbs_tdiv]; exact Nat.div_le_self _ _
  have bN : N.natAbs ≤ x.natAbs := by rw [← hN, Int.natAbs_tmod]; exact Nat.mod_le _ _
  have m0 : -10000000000000000 < M := by omega
  have m1 : M < 10000000000000000 := by omega
  have n0 : -10000000000000000 < N := by omega
  have n1 : N < 10000000000000000 := by omega
  rw [hM, hN] at s1 s2
  have S1 := Lib.hid s1
  have S2 := Lib.hid s2
  clear s1 s2 bM bN ix vx iy vy hx hy hx1 hy1 hy2
  clear c0 c1 c2 c3 hb2 hb3 hb1 hw1
  go_wp2_with fail
  go_quiet (fail)
  go_upto_if 48 with fail
  go_cut [10, 11] from 47 to 60 (fun v10 v11 wx => v10 = .int .i64 (x / y) ∧ v11 = .int .i64 (x % y) ∧ Below w3.heap.size w3 wx)
  case first =>
    have hbd : ∀ k, Below w3.heap.size w3 (w3.drewN k) := fun k => ⟨rfl, rfl, rfl, Nat.le_refl _, fun _ _ => rfl⟩
    by_cases hneg : N < 0
    · obtain ⟨t1, t2, t3⟩ := S1.out hneg
      have hmx : max y (-y) = (y.natAbs : Int) := by omega
      rcases Int.lt_or_le y 0 with h | h
      · have ht := t2 h
        have hy1 : ¬ (0 < y) := by omega
        clear t1 t2
        have HT3 := Lib.hid t3
        have HT := Lib.hid ht
        clear t3 ht
        go_wp2_with fail
        go_meet
        case rel => exact ⟨congrArg (Value.int .i64) HT.out, congrArg (Value.int .i64) HT3.out, hbd _⟩
      · have ht := t1 (by omega)
        have hy1 : 0 < y := by omega
        clear t1 t2
        have HT3 := Lib.hid t3
        have HT := Lib.hid ht
        clear t3 ht
        go_wp2_with fail
        go_meet
        case rel => exact ⟨congrArg (Value.int .i64) HT.out, congrArg (Value.int .i64) HT3.out, hbd _⟩
    · obtain ⟨t1, t2⟩ := S2.out (by omega)
      have HT3 := Lib.hid t2
      have HT := Lib.hid t1
      clear t1 t2
      go_wp2_with fail
      go_meet
      case rel => exact ⟨congrArg (Value.int .i64) HT.out, congrArg (Value.int .i64) HT3.out, hbd _⟩
  case rest =>
    obtain ⟨rfl, rfl, hbc⟩ := hcut
    have k2 := k2.kept hbc
    have k3 := k3.kept hbc
    have hbC := hbw.trans (hbc.mono hbw.size)
    have bq : (x / y).natAbs ≤ x.natAbs := Int.natAbs_ediv_le_natAbs _ _
    have br := Int.emod_nonneg x hy0
    have br2 : x % y < y.natAbs := Int.emod_lt x hy0
    go_wp2_with fail
    refine (from_any _ (by omega) (by omega) _).mono ?_
    rintro e w4 ⟨a4, p4, n4, c4, xs4, rfl, hz4, _, hb4⟩
    have hb4' := hbC.trans (hb4.mono hbC.size)
    go_wp2_with fail
    refine (from_any _ (by omega) (by omega) _).mono ?_
    rintro e w5 ⟨a5, p5, n5, c5, xs5, rfl, hz5, _, hb5⟩
    have hb5' := hb4'.trans (hb5.mono hb4'.size)
    have k2 := (k2.kept hb4).kept hb5
    have k3 := (k3.kept hb4).kept hb5
    have hz4 := hz4.below hb5
    have e0 := k2.cell (i := 0) rfl
    have e1 := k2.cell (i := 1) rfl
    have e2 := k3.cell (i := 0) rfl
    have e3 := k3.cell (i := 1) rfl
    have f0 := k2.frozen 0
    have f1 := k2.frozen 1
    have f2 := k3.frozen 0
    have f3 := k3.frozen 1
    go_wp2_with fail
    have g2 := k2.set_eq 0 (.bool a4) rfl |>.set_eq 1 (.slice p4 n4 c4) rfl
    have K2 := (g2.other (C := w.heap.size + 1 + 1 + 1) 0 (.bool a5) (by omega)).other (C := w.heap.size + 1 + 1 + 1) 1 (.slice p5 n5 c5) (by omega)
    have K3 := (((k3.other (C := w.heap.size + 1 + 1) 0 (.bool a4) (by omega)).other (C := w.heap.size + 1 + 1) 1 (.slice p4 n4 c4) (by omega)).set_eq 0 (.bool a5) rfl).set_eq 1 (.slice p5 n5 c5) rfl
    have r0 := K2.cell (i := 0) rfl
    have r1 := K2.cell (i := 1) rfl
    have r2 := K3.cell (i := 0) rfl
    have r3 := K3.cell (i := 1) rfl
    refine bodyPost_ret (v := .tuple #[.agg #[.bool a4, .slice p4 n4 c4], .agg #[.bool a5, .slice p5 n5 c5]]) (by simp [results, Try.results73, go_sem, r0, r1, r2, r3]) rfl ⟨a4, p4, n4, c4, xs4, a5, p5, n5, c5, xs5, rfl, ?_, ?_, ?_⟩
    · exact (hz4.setBox k2 a4 _).setBox ((k3.other (C := w.heap.size + 1 + 1) 0 (.bool a4) (by omega)).other (C := w.heap.size + 1 + 1) 1 (.slice p4 n4 c4) (by omega)) a5 _
    · exact (hz5.setBox k2 a4 _).setBox ((k3.other (C := w.heap.size + 1 + 1) 0 (.bool a4) (by omega)).other (C := w.heap.size + 1 + 1) 1 (.slice p4 n4 c4) (by omega)) a5 _
    · exact (((hb5'.setCell (by simp <;> omega) _).setCell (by simp <;> omega) _).setCell (by simp <;> omega) _).setCell (by simp <;> omega) _

end Go.Proofs.Ythdhakpmhndbfaa
