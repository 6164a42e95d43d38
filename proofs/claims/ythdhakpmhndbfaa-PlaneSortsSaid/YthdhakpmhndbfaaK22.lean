/-
  PlaneSorts: for every list of planes the law returns true, and the argument reads as it did. No condition.
-/
import Derived.Test.YthdhakpmhndbfaaRows
import Derived.ProofKit
import Derived.Laws.IdiomArrays
import Derived.Deep.Slices
import Derived.Test.YthdhakpmhndbfaaK1
import Derived.Test.YthdhakpmhndbfaaK2
import Derived.Test.YthdhakpmhndbfaaK3
import Derived.Test.YthdhakpmhndbfaaK4
import Derived.Test.YthdhakpmhndbfaaK5
import Derived.Test.YthdhakpmhndbfaaK6
import Derived.Test.YthdhakpmhndbfaaK7
import Derived.Test.YthdhakpmhndbfaaK8
import Derived.Test.YthdhakpmhndbfaaK9
import Derived.Test.YthdhakpmhndbfaaK10
import Derived.Test.YthdhakpmhndbfaaK11
import Derived.Test.YthdhakpmhndbfaaK12
import Derived.Test.YthdhakpmhndbfaaK13
import Derived.Test.YthdhakpmhndbfaaK14
import Derived.Test.YthdhakpmhndbfaaK15
import Derived.Test.YthdhakpmhndbfaaK16
import Derived.Test.YthdhakpmhndbfaaK17
import Derived.Test.YthdhakpmhndbfaaK18
import Derived.Test.YthdhakpmhndbfaaK19
import Derived.Test.YthdhakpmhndbfaaK20
import Derived.Test.YthdhakpmhndbfaaK21
namespace Go.Proofs.Ythdhakpmhndbfaa
open Go.RowKit Go.Shelf
attribute [local go_sem] Oper.semAt_some

/-- The law's own row, or none. -/
def RdX (base : Nat) (W : World) (p : Option Addr) (xs : List V4) : Prop := xs = [] ∨ ∃ g, p = some ⟨g, 0, none⟩ ∧ base ≤ g ∧ RowV W g xs
theorem RdX.below {base : Nat} {W W' : World} {p : Option Addr} {xs : List V4} (h : RdX base W p xs) (hb : Below W.heap.size W W') : RdX base W' p xs := by
  rcases h with h | ⟨g, e, hg, hr⟩
  · exact .inl h
  · exact .inr ⟨g, e, hg, hr.below hb⟩
theorem RdX.rd {base : Nat} {W : World} {p : Option Addr} {xs : List V4} (h : RdX base W p xs) : RdV W p xs := by
  rcases h with rfl | ⟨g, rfl, hg, hr⟩
  · exact RdV.none
  · exact hr.rdV
theorem RdX.take {base : Nat} {W : World} {p : Option Addr} {xs : List V4} (h : RdX base W p xs) (k : Nat) : RdX base W p (xs.take k) := by
  rcases h with rfl | ⟨g, e, hg, hr⟩
  · exact .inl (by simp)
  · exact .inr ⟨g, e, hg, hr.take k⟩
theorem made_flat (n : Nat) : (Go.madeCells #[Value.int .i64 0, .int .i64 0, .int .i64 0, .int .i64 0] (n * 4)).toList = flatV (List.replicate n ⟨0, 0, 0, 0⟩) := by
  have h1 : (Go.madeCells #[Value.int .i64 0, .int .i64 0, .int .i64 0, .int .i64 0] (n * 4)).toList = List.replicate (n * 4) (.int .i64 0) := by
    rw [List.eq_replicate_iff]
    refine ⟨by simp [Go.madeCells], fun u hu => ?_⟩
    unfold Go.madeCells at hu
    simp only [Array.toList_map, Array.toList_range, List.mem_map, List.mem_range] at hu
    obtain ⟨i, _, rfl⟩ := hu
    have h4 : i % 4 = 0 ∨ i % 4 = 1 ∨ i % 4 = 2 ∨ i % 4 = 3 := by omega
    rcases h4 with e | e | e | e <;> simp [e]
  have h2 : flatV (List.replicate n ⟨0, 0, 0, 0⟩) = List.replicate (n * 4) (.int .i64 0) := by
    rw [List.eq_replicate_iff]
    refine ⟨by rw [flatV_len, List.length_replicate], fun u hu => ?_⟩
    unfold flatV at hu
    rw [List.mem_flatMap] at hu
    obtain ⟨q, hq, hu⟩ := hu
    rw [List.eq_of_mem_replicate hq] at hu
    unfold encV at hu
    simp at hu
    exact hu
  rw [h1, h2]
theorem mkPlanes (w : World) : ∃ w', (Instr.makeSlice 61 (.int .i64 1001) (.int .i64 1001)).run Try.prog w = .ok (.slice (some ⟨w.heap.size, 0, none⟩) 1001 1001) w' ∧ RowV w' w.heap.size (List.replicate 1001 ⟨0, 0, 0, 0⟩) ∧ Below w.heap.size w w' := by
  obtain ⟨i0, hi, hz0, hz1, hz2⟩ := info_parts Try.infoVP
  obtain ⟨w', h1, h2, h3⟩ := run_makeSlice_full (P := Try.prog) (w := w) w.heap.size 61 23 i0 (.agg #[.int .i64 0, .int .i64 0, .int .i64 0, .int .i64 0]) 4 Try.underlying61 hi hz0 hz1 .i64 .i64 1001 (by decide) (by rw [hz2]; decide) (by unfold maxLen; omega) (Nat.le_refl _)
  refine ⟨w', h1, ?_, ⟨h3.os, h3.tape, h3.output, h3.size, fun k hk => h3.block k hk (by simp)⟩⟩
  rcases h2.2 with ⟨e, _⟩ | ⟨g, cap, cur, e, _, hg, _, _, _, ht⟩
  · cases e
  · cases e
    refine RowV.of_cells hg ?_
    rw [List.length_replicate, ht, ← made_flat]
    rfl
theorem nodup_len : ∀ (a b : List V4), a.Pairwise (fun x y => x ≠ y) → (∀ x ∈ a, x ∈ b) → a.length ≤ b.length
  | [], b, _, _ => Nat.zero_le _
  | x :: a, b, hp, hs => by
    rw [List.pairwise_cons] at hp
    have h1 := nodup_len a (b.erase x) hp.2 (fun y hy => (List.mem_erase_of_ne (Ne.symm (hp.1 y hy))).2 (hs y (by simp [hy])))
    have h2 := List.length_erase_of_mem (hs x (by simp))
    have h3 : 0 < b.length := List.length_pos_of_mem (hs x (by simp))
    rw [List.length_cons]; omega
theorem sortIs_len {l l' : List V4} (h : SortIs cmpV l l') : l'.length ≤ l.length :=
  nodup_len l' l (h.1.imp (fun {a b} hab e => by subst e; exact ordP.irr a trivial hab)) (fun x hx => (h.2 x).1 hx)
/-- A list of one plane alone, sorted. -/
theorem sortIs_one {l l' : List V4} {q : V4} (h : SortIs cmpV l l') (hl : ∀ x ∈ l, x = q) (hne : l ≠ []) : l' = [q] := by
  have hmem : ∀ x ∈ l', x = q := fun x hx => hl x ((h.2 x).1 hx)
  match l', h, hmem with
  | [], h, _ =>
    cases l with
    | nil => exact absurd rfl hne
    | cons y r => have := (h.2 y).2 (by simp); simp at this
  | [x], _, hm => rw [hm x (by simp)]
  | x :: y :: r, h, hm =>
    have h1 := h.1
    rw [List.pairwise_cons] at h1
    have h2 := h1.1 y (by simp)
    rw [hm x (by simp), hm y (by simp)] at h2
    exact absurd h2 (ordP.irr q trivial)

set_option maxRecDepth 100000 in
set_option maxHeartbeats 8000000 in
theorem planeSorts_walk (p : Option Addr) (n cap : Nat) (l : List V4) (w : World) (hl : l.length = n) (hn : n ≤ maxLen) (hcap : n ≤ cap) (hr : RdV w p l) (hi : ∀ q ∈ l, InV q) :
    Calls Try.prog 8 #[.slice p n cap] w fun e w' => e = .returned (.bool true) ∧ Below w.heap.size w w' := by
  have HI := Lib.hid (And.intro hl (And.intro hr hi))
  have hn63 : (n : Int) ≤ 9223372036854775807 := by unfold maxLen at hn; omega
  clear hl hr hi hn
  go_enter Try.func8, Try.ntmps8
  go_upto_region 2 with fail
  go_cut [3] from 19 to 25 (fun v3 wx => ∃ (p3 : Option Addr) (m c3 : Nat) (xs : List V4), v3 = .slice p3 m c3 ∧ Hid (xs.length = m ∧ m ≤ 20 ∧ ∀ q ∈ xs, InV q) ∧ Hid (RdX w.heap.size wx p3 xs) ∧ Below w.heap.size w wx)
  case first =>
    obtain ⟨m, hm, hmn, hm20, hmin⟩ : ∃ m : Nat, m ≤ n ∧ (m = n ∨ m = 20) ∧ m ≤ 20 ∧ min (n : Int) 20 = (m : Int) := by
      by_cases h : n ≤ 20
      · exact ⟨n, Nat.le_refl _, .inl rfl, h, by omega⟩
      · exact ⟨20, by omega, .inr rfl, Nat.le_refl _, by omega⟩
    have hmi : (m : Int) ≤ (cap : Int) := by omega
    have hmi2 : (m : Int) ≤ (n : Int) := by omega
    by_cases hm0 : m = 0
    · subst hm0
      cases p with
      | none =>
        go_wp2_with fail
        go_meet
        case rel => exact ⟨none, 0, 0, [], rfl, ⟨rfl, by decide, fun q h => by cases h⟩, .inl rfl, Below.refl _ _⟩
      | some a =>
        go_wp2_with fail
        go_meet
        case rel => exact ⟨none, 0, 0, [], rfl, ⟨rfl, by decide, fun q h => by cases h⟩, .inl rfl, Below.refl _ _⟩
    · have hpos : 0 < l.length := by rw [HI.out.1]; omega
      obtain ⟨b, off, rfl⟩ : ∃ b off, p = some ⟨b, off, none⟩ := by
        obtain ⟨b, off, e, _⟩ := HI.out.2.1 0 l[0] (List.getElem?_eq_getElem hpos)
        exact ⟨b, off, e⟩
      have htl : (l.take m).length = m := by rw [List.length_take, HI.out.1]; omega
      have hrt : RdV w (some ⟨b, off, none⟩) (l.take m) := fun i q h => HI.out.2.1 i q (by
        by_cases h1 : i < m
        · rwa [List.getElem?_take_of_lt h1] at h
        · rw [List.getElem?_take_eq_none (by omega)] at h; cases h)
      have HTL := Lib.hid htl
      have HMB := Lib.hid hm20
      clear hpos
      go_wp2_with (at_builtin; refine pushVP_law rfl _ _ rfl rfl (GrVP.nil w w.heap.size) htl hrt rfl (by decide) (Nat.le_trans HMB.out (by decide)) (Nat.le_refl _) ?_; intro v1 w1 hg1 hb1)
      rcases hg1.row with ⟨_, he⟩ | ⟨g, c, rfl, hg, hc, hrow⟩
      · exfalso
        rw [List.nil_append] at he
        have := HTL.out
        rw [he] at this
        exact hm0 this.symm
      · rw [List.nil_append] at hrow hc
        rw [List.nil_append, HTL.out]
        have HRW := Lib.hid hrow
        have HB1 := Lib.hid hb1
        have HG1 := Lib.hid hg
        clear hrow hb1 hg hg1 hc htl hrt
        go_wp2_with fail
        go_meet
        case rel => exact ⟨_, m, c, l.take m, rfl, ⟨HTL.out, HMB.out, fun q h => HI.out.2.2 q (List.mem_of_mem_take h)⟩, .inr ⟨g, rfl, HG1.out, HRW.out⟩, HB1.out⟩
  case rest =>
  obtain ⟨p3, m, c3, xs0, rfl, HX0, HR0, hb0⟩ := hcut
  clear HI
  go_wp2_with fail
  go_loopg [4] 2 (fun gk v4 wr => ∃ (j : Nat) (xs : List V4), j ≤ 2 ∧ gk = 2 - j ∧ v4 = .int .i64 (j : Int) ∧ Hid (xs.length = m ∧ m ≤ 20 ∧ ∀ q ∈ xs, InV q) ∧ Hid (RdX w.heap.size wr p3 xs) ∧ Below w.heap.size w wr)
  case atStart => exact ⟨0, xs0, by decide, rfl, rfl, HX0, HR0, hb0⟩
  case round =>
    clear HX0 HR0 hb0
    obtain ⟨j, xs, hj, hgk, rfl, HX, HR, hb⟩ := hrel
    have HGK := Lib.hid hgk
    clear hgk
    by_cases hj2 : j < 2
    · have hji : (j : Int) < 2 := by omega
      generalize wr = wo at *
      have hso := sortApi_any p3 m c3 xs wo HX.out.1 (by have := HX.out.2.1; omega) HR.out.rd HX.out.2.2
      have hmb : errE (decide ((m : Int) ≤ 1000)) 2 = 0 := by rw [decide_eq_true (by have := HX.out.2.1; omega)]; rfl
      rw [hmb] at hso
      obtain ⟨B, hB⟩ : ∃ B, (xs.all fun q => decide (RightQ q)) = B := ⟨_, rfl⟩
      rw [hB] at hso
      have hbad := fun W (hW : Below wo.heap.size wo W) => bad_any p3 m c3 xs W HX.out.1 (by have := HX.out.2.1; omega) (HR.out.rd.below hW) HX.out.2.2
      rw [hB] at hbad
      have hrs := fun W (hW : Below wo.heap.size wo W) => rsorted_any p3 m c3 xs W HX.out.1 (by have := HX.out.2.1; omega) (HR.out.rd.below hW)
      have HSO := Lib.hid hso
      have HBD := Lib.hid hbad
      have HRS := Lib.hid hrs
      clear hso hbad hrs hmb hB
      have hm63 : (m : Int) ≤ 20 := by have := HX.out.2.1; omega
      have hm0i : (0 : Int) ≤ (m : Int) := by omega
      go_wp2_with fail
      refine HSO.out.mono ?_
      rintro e w1 ⟨hcase, hb1⟩
      have HB1 := Lib.hid hb1
      clear hb1 HSO
      rcases hcase with ⟨E, hE, hne, rfl⟩ | ⟨h0, ps, cs, l1, rfl, hrd, hsi⟩
      · obtain ⟨rfl, rfl⟩ : B = false ∧ E = 30 := by
          cases B
          · exact ⟨rfl, by rw [hE]; rfl⟩
          · exact absurd (by rw [hE]; rfl) hne
        have HBE := Lib.hid (HBD.out w1 HB1.out)
        clear hE hne HBD HRS
        go_wp2_with fail
        refine HBE.out.mono ?_
        rintro e w2 ⟨rfl, hb2⟩
        have hb12 := HB1.out.trans (hb2.mono HB1.out.size)
        have HRX := Lib.hid (HR.out.below hb12)
        have HBX := Lib.hid (hb.trans (hb12.mono hb.size))
        rw [show errE false 30 = 30 from rfl]
        clear HBE hb2 hb12 HB1 HR hb
        go_wp2_with fail
        go_loopg [10] m (fun gk v10 wx => ∃ (i : Nat) (ys : List V4), i ≤ m ∧ gk = m - i ∧ v10 = .int .i64 (i : Int) ∧ Hid (ys.length = m ∧ ∀ q ∈ ys, InV q) ∧ Hid (RdX w.heap.size wx p3 ys) ∧ Below w.heap.size w wx)
        case atStart => exact ⟨0, xs, Nat.zero_le _, rfl, rfl, ⟨HX.out.1, HX.out.2.2⟩, HRX.out, HBX.out⟩
        case round =>
          obtain ⟨i, ys, hi, hgk3, rfl, HY, HRY, hby⟩ := hrel
          have HGK3 := Lib.hid hgk3
          clear hgk3
          by_cases him : i < m
          · have hii : (i : Int) < (m : Int) := by omega
            have hil : i < ys.length := by rw [HY.out.1]; exact him
            obtain ⟨g, rfl, hg, hrow⟩ : ∃ g, p3 = some ⟨g, 0, none⟩ ∧ w.heap.size ≤ g ∧ RowV wr g ys := by
              rcases HRY.out with h | h
              · rw [h] at hil; simp at hil
              · exact h
            obtain ⟨q, hq⟩ : ∃ q, ys[i]? = some q := ⟨_, List.getElem?_eq_getElem hil⟩
            have hqi : InV q := HY.out.2 q (List.mem_of_getElem? hq)
            obtain ⟨⟨c0, c1, c2, c4⟩, _⟩ := hrow.2 i q hq
            have HT := Lib.hid (fun W => tame_any q 1 W hqi (by decide) (by decide))
            obtain ⟨T, hT⟩ : ∃ T, tameV q 1 = T := ⟨_, rfl⟩
            have hti : InV T := by rw [← hT]; exact right_in (tame_right (by decide) (by decide))
            rw [hT] at HT
            have HTI := Lib.hid hti
            have HQ := Lib.hid hq
            have HRW := Lib.hid hrow
            have HG := Lib.hid hg
            have HIL := Lib.hid hil
            clear hq hqi hrow hg hil hti hT
            go_wp2_with fail
            refine (HT.out _).mono ?_
            rintro e w5 ⟨rfl, hb5⟩
            have hrow := HRW.out.below hb5
            obtain ⟨⟨d0, d1, d2, d4⟩, f0, f1, f2, f4⟩ := hrow.2 i q HQ.out
            have hby5 := hby.trans (hb5.mono hby.size)
            have HR5 := Lib.hid (hrow.set HIL.out T)
            have HB5 := Lib.hid ((((hby5.setCell (p := ⟨g, i * 4, none⟩) HG.out (.int .i64 T.a)).setCell (p := ⟨g, i * 4 + 1, none⟩) HG.out (.int .i64 T.b)).setCell (p := ⟨g, i * 4 + 2, none⟩) HG.out (.int .i64 T.c)).setCell (p := ⟨g, i * 4 + 3, none⟩) HG.out (.int .i64 T.d))
            clear hrow hby5 HRW c0 c1 c2 c4 HT hby hb5
            go_wp2_with fail
            go_roundg (m - (i + 1))
            case measure => rw [HGK3.out]; omega
            case rel =>
              refine ⟨i + 1, ys.set i T, by omega, rfl, by go_num, ⟨by rw [List.length_set]; exact HY.out.1, fun y hy => ?_⟩, .inr ⟨g, rfl, HG.out, HR5.out⟩, HB5.out⟩
              rcases List.mem_or_eq_of_mem_set hy with h | h
              · exact HY.out.2 y h
              · rw [h]; exact HTI.out
          · have hii : ¬ (i : Int) < (m : Int) := by omega
            go_wp2_with fail
            go_roundg (2 - (j + 1))
            case measure => rw [HGK.out]; omega
            case rel => exact ⟨j + 1, ys, by omega, rfl, by go_num, ⟨HY.out.1, HX.out.2.1, HY.out.2⟩, HRY, hby⟩
      · obtain rfl : B = true := by
          cases B
          · exact absurd h0 (by decide)
          · rfl
        have HBE := Lib.hid (HBD.out w1 HB1.out)
        have HRD := Lib.hid hrd
        have HSI := Lib.hid hsi
        obtain ⟨L, hL⟩ : ∃ L, l1.length = L := ⟨_, rfl⟩
        have HLL := Lib.hid hL
        have hL20 : L ≤ 20 := by have h1 := sortIs_len hsi; have h2 := HX.out.1; have h3 := HX.out.2.1; omega
        rw [hL]
        clear h0 HBD hrd hsi hL
        go_wp2_with fail
        refine HBE.out.mono ?_
        rintro e w2 ⟨rfl, hb2⟩
        have hb12 := HB1.out.trans (hb2.mono HB1.out.size)
        have HR2 := Lib.hid (HRS.out w2 hb12)
        have HRD2 := Lib.hid (HRD.out.below hb2)
        have HB2 := Lib.hid hb12
        rw [show errE true 30 = 0 from rfl]
        clear HBE hb2 hb12 HB1 HRS HRD
        go_wp2_with fail
        refine HR2.out.mono ?_
        rintro e w3 ⟨pv, cv, l2, rfl, hrd3, hsi3, hb3⟩
        obtain rfl : l1 = l2 := sortIs_uniq ordP (fun _ _ => trivial) HSI.out.1 hsi3.1 (fun x => (HSI.out.2 x).trans (hsi3.2 x).symm)
        rw [HLL.out]
        have hb13 := HB2.out.trans (hb3.mono HB2.out.size)
        have HRX := Lib.hid (HR.out.below hb13)
        have HBX := Lib.hid (hb.trans (hb13.mono hb.size))
        have HRS3 := Lib.hid (HRD2.out.below hb3)
        have HRV3 := Lib.hid hrd3
        clear hb3 hb13 hsi3 hrd3 HR2 HRD2 HB2 HR hb
        generalize w3 = wl at *
        go_wp2_with fail
        go_loopg [9] L (fun gk v9 wx => ∃ i : Nat, i ≤ L ∧ gk = L - i ∧ v9 = .int .i64 (i : Int) ∧ Hid (Below wl.heap.size wl wx))
        case atStart => exact ⟨0, Nat.zero_le _, rfl, rfl, Below.refl _ _⟩
        case round =>
          obtain ⟨i, hi, hgk2, rfl, HBL⟩ := hrel
          have HGK2 := Lib.hid hgk2
          clear hgk2
          by_cases hil : i < L
          · have hii : (i : Int) < (L : Int) := by omega
            obtain ⟨y, hy⟩ : ∃ y, l1[i]? = some y := ⟨_, List.getElem?_eq_getElem (by rw [HLL.out]; exact hil)⟩
            obtain ⟨bs, os, rfl, ha⟩ := HRS3.out.at4 hy
            obtain ⟨bv, ov, rfl, hb'⟩ := HRV3.out.at4 hy
            have HA := Lib.hid (ha.below HBL.out)
            have HB := Lib.hid (hb'.below HBL.out)
            clear hy ha hb'
            generalize wr = wq at *
            go_upto_region 17 with fail
            go_cut [72] from 64 to 72 (fun vv wn => vv = .bool false ∧ Below wq.heap.size wq wn)
            case first =>
              refine wp_region_pure' (fun ix => match ix with | 0 => .slice (some ⟨bs, os, none⟩) L cs | 1 => .int .i64 (i : Int) | 2 => .pointer (some ⟨bs, os + i * 4, none⟩) | 3 => .agg #[.int .i64 y.a, .int .i64 y.b, .int .i64 y.c, .int .i64 y.d] | 4 => .slice (some ⟨bv, ov, none⟩) L cv | 5 => .int .i64 (i : Int) | 6 => .pointer (some ⟨bv, ov + i * 4, none⟩) | 7 => .agg #[.int .i64 y.a, .int .i64 y.b, .int .i64 y.c, .int .i64 y.d] | _ => .bool false) (by kernel_rfl) (by kernel_rfl) ?_ ?_
              · rintro ix hx f ww hS hd
                obtain ⟨_, a0_, a1_, a2_, a3_⟩ := HA.out.below hS
                obtain ⟨_, b0_, b1_, b2_, b3_⟩ := HB.out.below hS
                have heq := fun w => eqPlane y y w
                simp only [decide_true] at heq
                rcases ix with _ | _ | _ | _ | _ | _ | _ | _ | _ | ix
                · refine wpOp_list rfl ?_
                  simp only [tmOf, putAll, List.map_cons, List.map_nil, List.setIfInBounds_toArray, List.set_cons_zero, List.set_cons_succ]
                  go_wp2
                  simp [upd, Below.refl]
                · refine wpOp_list rfl ?_
                  simp only [tmOf, putAll, List.map_cons, List.map_nil, List.setIfInBounds_toArray, List.set_cons_zero, List.set_cons_succ]
                  go_wp2
                  simp [upd, Below.refl]
                · have g0 : f 0 = .slice (some ⟨bs, os, none⟩) L cs := hd 0 (by kernel_rfl)
                  have g1 : f 1 = .int .i64 (i : Int) := hd 1 (by kernel_rfl)
                  refine wpOp_list rfl ?_
                  simp only [tmOf, putAll, List.map_cons, List.map_nil, List.setIfInBounds_toArray, List.set_cons_zero, List.set_cons_succ]
                  go_wp2
                  simp [upd, g0, g1, Below.refl]
                · have g2 : f 2 = .pointer (some ⟨bs, os + i * 4, none⟩) := hd 2 (by kernel_rfl)
                  refine wpOp_list rfl ?_
                  simp only [tmOf, putAll, List.map_cons, List.map_nil, List.setIfInBounds_toArray, List.set_cons_zero, List.set_cons_succ]
                  go_wp2
                  simp [upd, g2, Below.refl]
                · refine wpOp_list rfl ?_
                  simp only [tmOf, putAll, List.map_cons, List.map_nil, List.setIfInBounds_toArray, List.set_cons_zero, List.set_cons_succ]
                  go_wp2
                  simp [upd, Below.refl]
                · refine wpOp_list rfl ?_
                  simp only [tmOf, putAll, List.map_cons, List.map_nil, List.setIfInBounds_toArray, List.set_cons_zero, List.set_cons_succ]
                  go_wp2
                  simp [upd, Below.refl]
                · have g4 : f 4 = .slice (some ⟨bv, ov, none⟩) L cv := hd 4 (by kernel_rfl)
                  have g5 : f 5 = .int .i64 (i : Int) := hd 5 (by kernel_rfl)
                  refine wpOp_list rfl ?_
                  simp only [tmOf, putAll, List.map_cons, List.map_nil, List.setIfInBounds_toArray, List.set_cons_zero, List.set_cons_succ]
                  go_wp2
                  simp [upd, g4, g5, Below.refl]
                · have g6 : f 6 = .pointer (some ⟨bv, ov + i * 4, none⟩) := hd 6 (by kernel_rfl)
                  refine wpOp_list rfl ?_
                  simp only [tmOf, putAll, List.map_cons, List.map_nil, List.setIfInBounds_toArray, List.set_cons_zero, List.set_cons_succ]
                  go_wp2
                  simp [upd, g6, Below.refl]
                · have g3 : f 3 = .agg #[.int .i64 y.a, .int .i64 y.b, .int .i64 y.c, .int .i64 y.d] := hd 3 (by kernel_rfl)
                  have g7 : f 7 = .agg #[.int .i64 y.a, .int .i64 y.b, .int .i64 y.c, .int .i64 y.d] := hd 7 (by kernel_rfl)
                  refine wpOp_list rfl ?_
                  simp only [tmOf, putAll, List.map_cons, List.map_nil, List.setIfInBounds_toArray, List.set_cons_zero, List.set_cons_succ]
                  go_wp2
                  simp [upd, g3, g7, Below.refl]
                · simp only [List.length_cons, List.length_nil] at hx; omega
              · rintro f ww hS hd
                have gl : f 8 = .bool false := hd 8 (by decide)
                simp only [tmOf, putAll, List.map_cons, List.map_nil, List.setIfInBounds_toArray, List.set_cons_zero, List.set_cons_succ]
                refine ‹∀ (a' : Act) (w' : World), Met _ a' w' → _› _ _ ?_
                go_meet
                case rel => exact ⟨gl, hS⟩
            case rest =>
            obtain ⟨rfl, hbn⟩ := hcut
            have HBN := Lib.hid (HBL.out.trans (hbn.mono HBL.out.size))
            clear hbn HA HB
            go_wp2_with fail
            go_roundg (L - (i + 1))
            case measure => rw [HGK2.out]; omega
            case rel => exact ⟨i + 1, by omega, rfl, by go_num, HBN.out⟩
          · have hii : ¬ (i : Int) < (L : Int) := by omega
            have HRX := Lib.hid (HRX.out.below HBL.out)
            have HBX := Lib.hid (HBX.out.trans (HBL.out.mono HBX.out.size))
            clear HBL
            go_wp2_with fail
            go_loopg [10] m (fun gk v10 wx => ∃ (i : Nat) (ys : List V4), i ≤ m ∧ gk = m - i ∧ v10 = .int .i64 (i : Int) ∧ Hid (ys.length = m ∧ ∀ q ∈ ys, InV q) ∧ Hid (RdX w.heap.size wx p3 ys) ∧ Below w.heap.size w wx)
            case atStart => exact ⟨0, xs, Nat.zero_le _, rfl, rfl, ⟨HX.out.1, HX.out.2.2⟩, HRX.out, HBX.out⟩
            case round =>
              obtain ⟨i, ys, hi, hgk3, rfl, HY, HRY, hby⟩ := hrel
              have HGK3 := Lib.hid hgk3
              clear hgk3
              by_cases him : i < m
              · have hii : (i : Int) < (m : Int) := by omega
                have hil : i < ys.length := by rw [HY.out.1]; exact him
                obtain ⟨g, rfl, hg, hrow⟩ : ∃ g, p3 = some ⟨g, 0, none⟩ ∧ w.heap.size ≤ g ∧ RowV wr g ys := by
                  rcases HRY.out with h | h
                  · rw [h] at hil; simp at hil
                  · exact h
                obtain ⟨q, hq⟩ : ∃ q, ys[i]? = some q := ⟨_, List.getElem?_eq_getElem hil⟩
                have hqi : InV q := HY.out.2 q (List.mem_of_getElem? hq)
                obtain ⟨⟨c0, c1, c2, c4⟩, _⟩ := hrow.2 i q hq
                have HT := Lib.hid (fun W => tame_any q 1 W hqi (by decide) (by decide))
                obtain ⟨T, hT⟩ : ∃ T, tameV q 1 = T := ⟨_, rfl⟩
                have hti : InV T := by rw [← hT]; exact right_in (tame_right (by decide) (by decide))
                rw [hT] at HT
                have HTI := Lib.hid hti
                have HQ := Lib.hid hq
                have HRW := Lib.hid hrow
                have HG := Lib.hid hg
                have HIL := Lib.hid hil
                clear hq hqi hrow hg hil hti hT
                go_wp2_with fail
                refine (HT.out _).mono ?_
                rintro e w5 ⟨rfl, hb5⟩
                have hrow := HRW.out.below hb5
                obtain ⟨⟨d0, d1, d2, d4⟩, f0, f1, f2, f4⟩ := hrow.2 i q HQ.out
                have hby5 := hby.trans (hb5.mono hby.size)
                have HR5 := Lib.hid (hrow.set HIL.out T)
                have HB5 := Lib.hid ((((hby5.setCell (p := ⟨g, i * 4, none⟩) HG.out (.int .i64 T.a)).setCell (p := ⟨g, i * 4 + 1, none⟩) HG.out (.int .i64 T.b)).setCell (p := ⟨g, i * 4 + 2, none⟩) HG.out (.int .i64 T.c)).setCell (p := ⟨g, i * 4 + 3, none⟩) HG.out (.int .i64 T.d))
                clear hrow hby5 HRW c0 c1 c2 c4 HT hby hb5
                go_wp2_with fail
                go_roundg (m - (i + 1))
                case measure => rw [HGK3.out]; omega
                case rel =>
                  refine ⟨i + 1, ys.set i T, by omega, rfl, by go_num, ⟨by rw [List.length_set]; exact HY.out.1, fun y hy => ?_⟩, .inr ⟨g, rfl, HG.out, HR5.out⟩, HB5.out⟩
                  rcases List.mem_or_eq_of_mem_set hy with h | h
                  · exact HY.out.2 y h
                  · rw [h]; exact HTI.out
              · have hii : ¬ (i : Int) < (m : Int) := by omega
                go_wp2_with fail
                go_roundg (2 - (j + 1))
                case measure => rw [HGK.out]; omega
                case rel => exact ⟨j + 1, ys, by omega, rfl, by go_num, ⟨HY.out.1, HX.out.2.1, HY.out.2⟩, HRY, hby⟩
    · have hji : ¬ (j : Int) < 2 := by omega
      clear HR HX
      obtain ⟨wm, hmk, hrow0, hbm⟩ := mkPlanes wr
      have HRW0 := Lib.hid hrow0
      have HBM := Lib.hid (hb.trans (hbm.mono hb.size))
      have HGE := Lib.hid hb.size
      obtain ⟨G, hG⟩ : ∃ G, wr.heap.size = G := ⟨_, rfl⟩
      rw [hG] at hmk HRW0 HGE
      clear hrow0 hbm hb hG
      go_wp2_with fail
      go_loopg [12] 1001 (fun gk v12 wx => ∃ (i : Nat) (ys : List V4), i ≤ 1001 ∧ gk = 1001 - i ∧ v12 = .int .i64 (i : Int) ∧ Hid (ys.length = 1001 ∧ ∀ k, k < i → ys[k]? = some ⟨1, 0, 0, 0⟩) ∧ Hid (RowV wx G ys) ∧ Hid (Below w.heap.size w wx))
      case atStart => exact ⟨0, _, by decide, rfl, rfl, ⟨List.length_replicate, fun k hk => absurd hk (by omega)⟩, HRW0.out, HBM.out⟩
      case round =>
        obtain ⟨i, ys, hi, hgk4, rfl, HY, HRY, HBY⟩ := hrel
        have HGK4 := Lib.hid hgk4
        clear hgk4
        by_cases hil : i < 1001
        · have hii : (i : Int) < 1001 := by omega
          have hiy : i < ys.length := by rw [HY.out.1]; exact hil
          obtain ⟨q, hq⟩ : ∃ q, ys[i]? = some q := ⟨_, List.getElem?_eq_getElem hiy⟩
          obtain ⟨⟨c0, c1, c2, c4⟩, f0, f1, f2, f4⟩ := HRY.out.2 i q hq
          have HR5 := Lib.hid (HRY.out.set hiy ⟨1, 0, 0, 0⟩)
          have HB5 := Lib.hid ((((HBY.out.setCell (p := ⟨G, i * 4, none⟩) HGE.out (.int .i64 1)).setCell (p := ⟨G, i * 4 + 1, none⟩) HGE.out (.int .i64 0)).setCell (p := ⟨G, i * 4 + 2, none⟩) HGE.out (.int .i64 0)).setCell (p := ⟨G, i * 4 + 3, none⟩) HGE.out (.int .i64 0))
          have HIY := Lib.hid hiy
          clear hq hiy HBY
          go_wp2_with fail
          go_roundg (1001 - (i + 1))
          case measure => rw [HGK4.out]; omega
          case rel =>
            refine ⟨i + 1, ys.set i ⟨1, 0, 0, 0⟩, by omega, rfl, by go_num, ⟨by rw [List.length_set]; exact HY.out.1, fun k hk => ?_⟩, HR5.out, HB5.out⟩
            by_cases e : k = i
            · subst e; rw [List.getElem?_set_self HIY.out]
            · rw [List.getElem?_set_ne (Ne.symm e)]; exact HY.out.2 k (by omega)
        · have hii : ¬ (i : Int) < 1001 := by omega
          obtain rfl : i = 1001 := by omega
          have hall : ∀ q ∈ ys, q = ⟨1, 0, 0, 0⟩ := fun q hq => by
            obtain ⟨k, hk, rfl⟩ := List.getElem_of_mem hq
            have h1 := HY.out.2 k (by rw [← HY.out.1]; exact hk)
            rw [List.getElem?_eq_getElem hk] at h1
            exact Option.some.inj h1
          have hinv : InV ⟨1, 0, 0, 0⟩ := by unfold InV InI64; decide
          have hright : RightQ ⟨1, 0, 0, 0⟩ := by unfold RightQ RightP; decide
          have hright0 : ¬ RightQ ⟨0, 0, 0, 0⟩ := by unfold RightQ RightP; decide
          have hinv0 : InV ⟨0, 0, 0, 0⟩ := by unfold InV InI64; decide
          have hallr : ∀ zs : List V4, (∀ q ∈ zs, q = ⟨1, 0, 0, 0⟩) → (zs.all fun q => decide (RightQ q)) = true := fun zs h => List.all_eq_true.2 fun q hq => by rw [h q hq]; exact decide_eq_true hright
          have htl : (ys.take 1000).length = 1000 := by rw [List.length_take, HY.out.1]; rfl
          have hs1 := sortApi_any (some ⟨G, 0, none⟩) 1000 1000 (ys.take 1000) wr htl (by decide) (HRY.out.take 1000).rdV (fun q hq => by rw [hall q (List.mem_of_mem_take hq)]; exact hinv)
          rw [hallr _ (fun q hq => hall q (List.mem_of_mem_take hq))] at hs1
          have hs2 := fun W (hW : Below wr.heap.size wr W) => sortApi_any (some ⟨G, 0, none⟩) 1001 1001 ys W HY.out.1 (by decide) (HRY.out.rdV.below hW) (fun q hq => by rw [hall q hq]; exact hinv)
          rw [hallr _ hall] at hs2
          have hiy : 1000 < ys.length := by rw [HY.out.1]; decide
          have hs3 := fun W (hW : RowV W G (ys.set 1000 ⟨0, 0, 0, 0⟩)) => sortApi_any (some ⟨G, 0, none⟩) 1001 1001 (ys.set 1000 ⟨0, 0, 0, 0⟩) W (by rw [List.length_set]; exact HY.out.1) (by decide) hW.rdV (fun q hq => by
            rcases List.mem_or_eq_of_mem_set hq with h | h
            · rw [hall q h]; exact hinv
            · rw [h]; exact hinv0)
          have hbad3 : ((ys.set 1000 ⟨0, 0, 0, 0⟩).all fun q => decide (RightQ q)) = false := by
            rw [List.all_eq_false]
            exact ⟨⟨0, 0, 0, 0⟩, List.mem_set hiy _, by rw [decide_eq_false hright0]; decide⟩
          rw [hbad3] at hs3
          have hone : ∀ l' : List V4, SortIs cmpV (ys.take 1000) l' → l' = [⟨1, 0, 0, 0⟩] := fun l' h => sortIs_one h (fun q hq => hall q (List.mem_of_mem_take hq)) (by intro e; rw [e] at htl; simp at htl)
          have HS1 := Lib.hid hs1
          have HS2 := Lib.hid hs2
          have HS3 := Lib.hid hs3
          have HONE := Lib.hid hone
          have HIY := Lib.hid hiy
          clear hs1 hs2 hs3 hone hiy hall hinv hright hright0 hinv0 hallr htl hbad3
          go_wp2_with fail
          refine HS1.out.mono ?_
          rintro e w1 ⟨hc1, hb1⟩
          rcases hc1 with ⟨E, hE, hne, _⟩ | ⟨_, ps, cs, l1, rfl, _, hsi⟩
          · exact absurd (by rw [hE]; rfl) hne
          obtain rfl := HONE.out l1 hsi
          have HB1 := Lib.hid hb1
          have HS2' := Lib.hid (HS2.out w1 hb1)
          clear hsi hb1 HS1 HS2 HONE
          go_wp2_with fail
          refine HS2'.out.mono ?_
          rintro e w2 ⟨hc2, hb2⟩
          rcases hc2 with ⟨E, hE, hne, rfl⟩ | ⟨h0, _⟩
          rotate_left
          · exact absurd h0 (by decide)
          obtain rfl : E = 2 := by rw [hE]; rfl
          have hb12 := HB1.out.trans (hb2.mono HB1.out.size)
          have hrow := HRY.out.below hb12
          obtain ⟨q, hq⟩ : ∃ q, ys[1000]? = some q := ⟨_, List.getElem?_eq_getElem HIY.out⟩
          obtain ⟨⟨c0, c1, c2, c4⟩, f0, f1, f2, f4⟩ := hrow.2 1000 q hq
          have hr3 := hrow.set HIY.out ⟨0, 0, 0, 0⟩
          have hb3 := (((HBY.out.trans (hb12.mono HBY.out.size)).setCell (p := ⟨G, 4000, none⟩) HGE.out (.int .i64 0)).setCell (p := ⟨G, 4001, none⟩) HGE.out (.int .i64 0)).setCell (p := ⟨G, 4002, none⟩) HGE.out (.int .i64 0) |>.setCell (p := ⟨G, 4003, none⟩) HGE.out (.int .i64 0)
          obtain ⟨w3, hw3⟩ : ∃ w', ((((w2.setCell ⟨G, 4000, none⟩ (.int .i64 0)).setCell ⟨G, 4001, none⟩ (.int .i64 0)).setCell ⟨G, 4002, none⟩ (.int .i64 0)).setCell ⟨G, 4003, none⟩ (.int .i64 0)) = w' := ⟨_, rfl⟩
          have hr3' : RowV w3 G (ys.set 1000 ⟨0, 0, 0, 0⟩) := by rw [← hw3]; exact hr3
          have hb3' : Below w.heap.size w w3 := by rw [← hw3]; exact hb3
          have HS3' := Lib.hid (HS3.out w3 hr3')
          have HB3 := Lib.hid hb3'
          clear hr3 hr3' hb3 hb3' hrow hb12 hb2 hq hE hne HS3 HS2'
          have c0 : w2.cell? ⟨G, 4000, none⟩ = some (.int .i64 q.a) := c0
          have c1 : w2.cell? ⟨G, 4001, none⟩ = some (.int .i64 q.b) := c1
          have c2 : w2.cell? ⟨G, 4002, none⟩ = some (.int .i64 q.c) := c2
          have c4 : w2.cell? ⟨G, 4003, none⟩ = some (.int .i64 q.d) := c4
          have f0 : w2.frozen? ⟨G, 4000, none⟩ = false := f0
          have f1 : w2.frozen? ⟨G, 4001, none⟩ = false := f1
          have f2 : w2.frozen? ⟨G, 4002, none⟩ = false := f2
          have f4 : w2.frozen? ⟨G, 4003, none⟩ = false := f4
          go_wp2_with fail
          refine HS3'.out.mono ?_
          rintro e w4 ⟨hc4, hb4⟩
          rcases hc4 with ⟨E, hE, hne, rfl⟩ | ⟨h0, _⟩
          rotate_left
          · exact absurd h0 (by decide)
          obtain rfl : E = 30 := by rw [hE]; rfl
          have hb4' := HB3.out.trans (hb4.mono HB3.out.size)
          have HB4 := Lib.hid hb4'
          clear hb4 hb4' hE hne
          go_wp2_with fail
          refine (awake3_any _).mono ?_
          rintro e' w6 ⟨rfl, hb6⟩
          go_wp2_with fail
          go_ret
          exact ⟨rfl, HB4.out.trans (hb6.mono HB4.out.size)⟩

end Go.Proofs.Ythdhakpmhndbfaa

namespace Go.Proofs.Ythdhakpmhndbfaa
open Go Go.ChangeShapes Go.WideShapes Go.ChangeAt Go.WideMaps Go.WideElems Go.RowKit Go.ChangeMaps

theorem Try.ownP : ownKnob Try.prog.godebug = none := by kernel_rfl
theorem Try.laidOutP : laidOutB Try.prog = true := by kernel_rfl
theorem Try.cellsI64 : Try.prog.cellsOf 2 = 1 := by kernel_rfl

theorem inI64_wf {n : Int} (h : (Lit.int .i64 n).wf = true) : InI64 n := by
  unfold InI64
  have h1 : IntKind.i64.min = -9223372036854775808 := by decide
  have h2 : IntKind.i64.max = 9223372036854775807 := by decide
  simp [Lit.wf, h1, h2] at h
  omega

theorem four_of {H : Type} {enc : TypeId × Value → H} {W : World} {base : Nat} {t : TypeId} {sp : Nat → Bool} {fuel : Nat} {c0 c1 c2 c3 : Value} {y : DataW H × List MemPlace} (ht : Try.prog.underlying t = some (.array 4 2)) (hf : DataW.trod enc Try.prog W base sp true fuel t [c0, c1, c2, c3] = some y) : ∃ q : V4, c0 = .int .i64 q.a ∧ c1 = .int .i64 q.b ∧ c2 = .int .i64 q.c ∧ c3 = .int .i64 q.d ∧ InV q := by
  obtain ⟨z0, z1, z2, z3, m, _, hy0, hy1, hy2, hy3⟩ := trod_array4 ht Try.cellsI64 hf
  obtain ⟨x0, e0, _, w0⟩ := DataW.trod_int Try.underlying2 hy0
  obtain ⟨x1, e1, _, w1⟩ := DataW.trod_int Try.underlying2 hy1
  obtain ⟨x2, e2, _, w2⟩ := DataW.trod_int Try.underlying2 hy2
  obtain ⟨x3, e3, _, w3⟩ := DataW.trod_int Try.underlying2 hy3
  simp at e0 e1 e2 e3
  exact ⟨⟨x0, x1, x2, x3⟩, e0, e1, e2, e3, inI64_wf w0, inI64_wf w1, inI64_wf w2, inI64_wf w3⟩

end Go.Proofs.Ythdhakpmhndbfaa

namespace Go.Proofs.Ythdhakpmhndbfaa
open Go Go.ChangeShapes Go.WideShapes Go.ChangeAt Go.WideMaps Go.WideElems Go.RowKit Go.ChangeMaps Go.Deep

theorem fours_open {H : Type} {enc : TypeId × Value → H} {W : World} {fuel : Nat} {a0 : Option Addr} {len cap : Nat} {t e : TypeId} {x : DataW H × List MemPlace} (ht : Try.prog.underlying t = some (.slice e)) (he : Try.prog.underlying e = some (.array 4 2)) (hce : Try.prog.cellsOf e = 4)
    (hf : DataW.trod enc Try.prog W 0 (fun _ => true) true fuel t [.slice a0 len cap] = some x) :
    ∃ l : List V4, l.length = len ∧ len ≤ maxLen ∧ len ≤ cap ∧ RdV W a0 l ∧ ∀ q ∈ l, InV q := by
  rcases open_slice ht hf with ⟨hcs, _⟩ | ⟨a, len', cap', m, n, D, Pl, hcs, hb, hl, hm, hmm, _, hx⟩
  · simp at hcs
    obtain ⟨rfl, rfl, rfl⟩ := hcs
    exact ⟨[], rfl, Nat.zero_le _, Nat.le_refl _, fun i q h => by simp at h, fun q h => by cases h⟩
  · simp at hcs
    obtain ⟨rfl, rfl, rfl⟩ := hcs
    simp only [if_true] at hmm
    have hml : len ≤ m := by omega
    have each : ∀ r, r < len → ∃ q : V4, (∃ b off, a = ⟨b, off, none⟩ ∧ b < W.heap.size ∧ W.cell? ⟨b, off + r * 4, none⟩ = some (.int .i64 q.a) ∧ W.cell? ⟨b, off + r * 4 + 1, none⟩ = some (.int .i64 q.b) ∧ W.cell? ⟨b, off + r * 4 + 2, none⟩ = some (.int .i64 q.c) ∧ W.cell? ⟨b, off + r * 4 + 3, none⟩ = some (.int .i64 q.d)) ∧ InV q := by
      intro r hr
      obtain ⟨cs', h1, h2⟩ := hx r (by omega)
      rw [hce] at h1
      obtain ⟨_, hlen, hcell⟩ := World.cells?_some h1
      match cs', hlen with
      | [c0, c1, c2, c3], _ =>
        obtain ⟨q, rfl, rfl, rfl, rfl, hq⟩ := four_of he h2
        have e0 := hcell 0 (by decide)
        have e1 := hcell 1 (by decide)
        have e2 := hcell 2 (by decide)
        have e3 := hcell 3 (by decide)
        obtain ⟨b, off, spot⟩ := a
        have hspot : spot = none := by
          obtain ⟨cz, hz1, hz2⟩ := hx 0 (by omega)
          rw [hce] at hz1
          obtain ⟨_, hzl, hzc⟩ := World.cells?_some hz1
          have z0 := hzc 0 (by decide)
          match cz, hzl with
          | [d0, d1, d2, d3], _ => simpa [Addr.add] using World.cell?_spot z0
        subst hspot
        simp only [add_plain] at e0 e1 e2 e3
        exact ⟨q, ⟨b, off, rfl, World.block_lt_of_cell? _ _ (by rw [e0]; rfl), e0, e1, e2, e3⟩, hq⟩
    haveI : Inhabited V4 := ⟨⟨0, 0, 0, 0⟩⟩
    obtain ⟨y, hy⟩ := choose_lt each
    refine ⟨(List.range len).map y, by simp, by omega, hl, fun i q hi => ?_, fun q hq => ?_⟩
    · rw [List.getElem?_map, Option.map_eq_some_iff] at hi
      obtain ⟨r, hr, rfl⟩ := hi
      obtain ⟨hlt, he⟩ := List.getElem?_eq_some_iff.1 hr
      simp at hlt he
      subst he
      obtain ⟨⟨b, off, ha, h1, h2, h3, h4, h5⟩, _⟩ := hy i hlt
      exact ⟨b, off, by rw [ha], h1, h2, h3, h4, h5⟩
    · obtain ⟨r, hr, rfl⟩ := List.mem_map.1 hq
      exact (hy r (List.mem_range.1 hr)).2

end Go.Proofs.Ythdhakpmhndbfaa

namespace Go.Proofs.Ythdhakpmhndbfaa
open Go Go.ChangeShapes Go.WideShapes Go.ChangeAt Go.WideMaps Go.WideElems Go.RowKit Go.ChangeMaps

set_option maxRecDepth 100000 in
theorem planeSorts_lifted (os : Os) (started : os.Started) (H : Type) (enc : TypeId × Value → H) :
    ReturnsInHanded {} Try.checked os 8 .any (Rows.planeSortsSpec.pre6 enc Try.prog Try.f8 Rows.planeSortsRow.domain false) (Rows.planeSortsSpec.post enc Try.prog Try.f8 false true false false) := by
  refine returnsInHanded_of_change (C := Try.checked) Try.ownP started (by kernel_rfl) Try.func8
    (ChangeSpec.witness6 (enc := enc) (C := Try.checked) false ⟨#[], #[.slice none 0 0], []⟩ 8 (by kernel_rfl) (by kernel_rfl) (by kernel_rfl) (by kernel_rfl)) ?_
  intro W base args ds gs before hval0 hW _ _
  have hval : ∀ (j : Nat) t v, Try.f8.params[j]? = some t → args[j]? = some v → Value.okWide Try.prog W .any base t v := hval0
  have hW' := hW
  obtain ⟨p, q, hA0, hV, rfl, hfz, hnd⟩ := hW
  have hA : DataW.TrodAll enc Try.prog W 0 (fun _ => true) true Try.f8.params.toList args.toList ds p := hA0
  rw [Try.params8] at hA hval
  obtain ⟨v0, d0, rfl, rfl, h0⟩ := trodAll_one hA
  obtain ⟨rfl, rfl⟩ := trodVars_none hV
  obtain ⟨a0, n0, c0, rfl⟩ := okWide_slice Try.underlying61 (hval 0 61 v0 rfl rfl)
  have h0k := h0
  obtain ⟨fuel0, hf0⟩ := h0k
  obtain ⟨l0, hll0, hlm0, hlc0, hlr0, hli0⟩ := fours_open Try.underlying61 (by kernel_rfl) (by kernel_rfl) (by simpa [Value.cells] using hf0)
  simp only [List.append_nil] at hW'
  have hlt0 : ∀ x ∈ p, x.block < W.heap.size := fun x hx => by simpa using hW'.lt x (by simp [hx])
  refine (planeSorts_walk a0 n0 c0 l0 W hll0 hlm0 hlc0 hlr0 hli0).mono fun e W' ⟨he, hb⟩ => ?_
  subst he
  refine ⟨_, rfl, _, _, _, [], p, [], hW', ?_, ?_, rfl, hb.frame _, fun h => by cases h⟩
  · exact trodAll_mk1 (shut_bool Try.underlying4 true)
  · exact trodAll_mk1 (Below.trod Try.laidOutP (by kernel_rfl) (of_decide_eq_true (by kernel_rfl)) h0 hb hlt0)

theorem planeSorts_holds : Rows.PlaneSortsSaid :=
  OpenClaim.holds_of_wide 8 Try.f8 rfl rfl rfl rfl rfl rfl rfl ⟨rfl, rfl, rfl, rfl, rfl⟩ rfl rfl rfl rfl rfl (by kernel_rfl) Try.func8 (by kernel_rfl)
    (of_decide_eq_true (by kernel_rfl)) (by unfold Func.isWrapper; first | (rw [if_pos (by decide +kernel)]; kernel_rfl) | (rw [if_neg (by decide +kernel)]; exact ⟨rfl, rfl⟩))
    (fun os started H enc _ => planeSorts_lifted os started H enc)
#print axioms planeSorts_holds

end Go.Proofs.Ythdhakpmhndbfaa
