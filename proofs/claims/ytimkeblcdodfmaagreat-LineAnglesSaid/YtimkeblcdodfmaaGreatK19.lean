/-
  Package line: the first vector, clockwise; Package line: which vector comes first, clockwise, with its checks.
-/
import Derived.Test.YtimkeblcdodfmaaGreatK1
import Derived.Test.YtimkeblcdodfmaaGreatK2
import Derived.Test.YtimkeblcdodfmaaGreatK3
import Derived.Test.YtimkeblcdodfmaaGreatK4
import Derived.Test.YtimkeblcdodfmaaGreatK5
import Derived.Test.YtimkeblcdodfmaaGreatK6
import Derived.Test.YtimkeblcdodfmaaGreatK7
import Derived.Test.YtimkeblcdodfmaaGreatK8
import Derived.Test.YtimkeblcdodfmaaGreatK9
import Derived.Test.YtimkeblcdodfmaaGreatK16
import Derived.Test.YtimkeblcdodfmaaGreatK17
import Derived.Test.YtimkeblcdodfmaaGreatK18
namespace Go.Proofs.YtimkeblcdodfmaaGreat
open Go.RowKit Go.Shelf
attribute [local go_sem] Oper.semAt_some

def atV (l : List V3) (i : Nat) : V3 := l[i]?.getD ⟨0, 0, 0⟩
/-- The index that is found in i vectors, of those that lie t to f. -/
def scanN (n f : V3) (l : List V3) (t : Int) : Nat → Int
  | 0 => -1
  | i + 1 => if angV n f (atV l i) = t ∧ (scanN n f l t i < 0 ∨ angV n (atV l (scanN n f l t i).toNat) (atV l i) = 1) then (i : Int) else scanN n f l t i
theorem scanN_range (n f : V3) (l : List V3) (t : Int) : ∀ i : Nat, -1 ≤ scanN n f l t i ∧ scanN n f l t i < (i : Int)
  | 0 => by unfold scanN; omega
  | i + 1 => by
    have h := scanN_range n f l t i
    unfold scanN
    split <;> omega
def firstV (n f : V3) (l : List V3) : Int :=
  if 0 ≤ scanN n f l 3 l.length then scanN n f l 3 l.length else if 0 ≤ scanN n f l 2 l.length then scanN n f l 2 l.length else if 0 ≤ scanN n f l 1 l.length then scanN n f l 1 l.length else if 0 ≤ scanN n f l 0 l.length then scanN n f l 0 l.length else -1
theorem firstV_at {n f : V3} {l : List V3} {j : Nat} (hj : j < 4) (hb : ∀ i : Nat, i < j → scanN n f l (3 - (i : Int)) l.length < 0) (h : 0 ≤ scanN n f l (3 - (j : Int)) l.length) : firstV n f l = scanN n f l (3 - (j : Int)) l.length := by
  unfold firstV
  match j, hj with
  | 0, _ =>
    have h : 0 ≤ scanN n f l 3 l.length := h
    rw [if_pos h]; rfl
  | 1, _ =>
    have h : 0 ≤ scanN n f l 2 l.length := h
    have h0 := hb 0 (by omega)
    rw [if_neg (by simpa using h0), if_pos h]; rfl
  | 2, _ =>
    have h : 0 ≤ scanN n f l 1 l.length := h
    have h0 := hb 0 (by omega)
    have h1 := hb 1 (by omega)
    rw [if_neg (by simpa using h0), if_neg (show ¬ 0 ≤ scanN n f l 2 l.length from by simpa using h1), if_pos h]; rfl
  | 3, _ =>
    have h : 0 ≤ scanN n f l 0 l.length := h
    have h0 := hb 0 (by omega)
    have h1 := hb 1 (by omega)
    have h2 := hb 2 (by omega)
    rw [if_neg (by simpa using h0), if_neg (show ¬ 0 ≤ scanN n f l 2 l.length from by simpa using h1), if_neg (show ¬ 0 ≤ scanN n f l 1 l.length from by simpa using h2), if_pos h]; rfl
theorem firstV_none {n f : V3} {l : List V3} (hb : ∀ i : Nat, i < 4 → scanN n f l (3 - (i : Int)) l.length < 0) : firstV n f l = -1 := by
  unfold firstV
  have h0 := hb 0 (by omega)
  have h1 := hb 1 (by omega)
  have h2 := hb 2 (by omega)
  have h3 := hb 3 (by omega)
  rw [if_neg (by simpa using h0), if_neg (show ¬ 0 ≤ scanN n f l 2 l.length from by simpa using h1), if_neg (show ¬ 0 ≤ scanN n f l 1 l.length from by simpa using h2), if_neg (show ¬ 0 ≤ scanN n f l 0 l.length from by simpa using h3)]

set_option maxRecDepth 100000 in
set_option maxHeartbeats 8000000 in
theorem firstL_any (n f : V3) (a : Option Addr) (m c : Nat) (l : List V3) (w : World) (hl : l.length = m) (hm : m ≤ 1000000000) (hr : RdD w a l) (hn : Far n 1000) (hf : Far f 2000000) (hls : ∀ y ∈ l, Far y 2000000) :
    Calls Tryz.prog 74 #[.agg #[.int .i64 n.a, .int .i64 n.b, .int .i64 n.c], .agg #[.int .i64 f.a, .int .i64 f.b, .int .i64 f.c], .slice a m c] w fun e w' => e = .returned (.int .i64 (firstV n f l)) ∧ Below w.heap.size w w' := by
  obtain ⟨w1, hw1⟩ : ∃ w1, ((w.alloc (.cells #[.int .i64 n.a, .int .i64 n.b, .int .i64 n.c] 24)).alloc (.cells #[.int .i64 f.a, .int .i64 f.b, .int .i64 f.c] 24)) = w1 := ⟨_, rfl⟩
  have hb1 : Below w.heap.size w w1 := by rw [← hw1]; exact bw2 w _ _
  have k0 : Blk w1 (w.heap.size) #[.int .i64 n.a, .int .i64 n.b, .int .i64 n.c] 24 := by rw [← hw1]; exact ((Blk.new w _ _).alloc _)
  have k1 : Blk w1 (w.heap.size + 1) #[.int .i64 f.a, .int .i64 f.b, .int .i64 f.c] 24 := by rw [← hw1]; exact (Blk.new' _ _ _ (by simp))
  have HL := Lib.hid hl
  have HR := Lib.hid (hr.below hb1)
  have HF := Lib.hid (And.intro hn (And.intro hf hls))
  clear hl hr hn hf hls
  go_enter Tryz.func74, Tryz.ntmps74
  go_wp2_with fail
  go_step3
  go_wp2_with fail
  go_step3
  go_wp2_with fail
  go_loopg [7, 13] 4 (fun gk v7 v13 wr => ∃ j : Nat, j ≤ 4 ∧ gk = 4 - j ∧ v13 = .int .i64 (j : Int) ∧ v7 = .int .i64 (-1) ∧ Hid (∀ i : Nat, i < j → scanN n f l (3 - (i : Int)) m < 0) ∧ Below w1.heap.size w1 wr)
  case atStart => exact ⟨0, by omega, rfl, rfl, rfl, fun i hi => absurd hi (by omega), Below.refl _ _⟩
  case round =>
    obtain ⟨j, hj, hgj, rfl, rfl, HJ, hb⟩ := hrel
    have HGJ := Lib.hid hgj
    clear hgj
    by_cases hj4 : j < 4
    · have hlti : (j : Int) < 4 := by omega
      obtain ⟨T, hT⟩ : ∃ T : Int, 3 - (j : Int) = T := ⟨_, rfl⟩
      have HT := Lib.hid hT
      have hix : ∀ w, (Instr.index 78 (.agg #[.int .i64 3, .int .i64 2, .int .i64 1, .int .i64 0]) (.int .i64 (j : Int))).run Tryz.prog w = .ok (.int .i64 T) w := by
        match j, hj4, hT with
        | 0, _, hT => subst hT; exact fun _ => by kernel_rfl
        | 1, _, hT => subst hT; exact fun _ => by kernel_rfl
        | 2, _, hT => subst hT; exact fun _ => by kernel_rfl
        | 3, _, hT => subst hT; exact fun _ => by kernel_rfl
      clear hT
      generalize wr = wo at *
      go_wp2_with fail
      go_loopg [7, 18] m (fun gk v7 v18 wr => ∃ i : Nat, i ≤ m ∧ gk = m - i ∧ v18 = .int .i64 (i : Int) ∧ v7 = .int .i64 (scanN n f l T i) ∧ Below w1.heap.size w1 wr)
      case atStart => exact ⟨0, by omega, rfl, rfl, rfl, hb⟩
      case round =>
        clear hb
        obtain ⟨i, hi, hgk, rfl, rfl, hb⟩ := hrel
        have HGK := Lib.hid hgk
        clear hgk
        by_cases hlt : i < m
        · have hil : i < l.length := by rw [HL.out]; exact hlt
          have hlti : (i : Int) < (m : Int) := by omega
          obtain ⟨bb, off, rfl, hbl, g0, g1, g2⟩ := HR.out i _ (List.getElem?_eq_getElem hil)
          have hmem := List.getElem_mem hil
          have hat : atV l i = l[i] := by unfold atV; rw [List.getElem?_eq_getElem hil]; rfl
          have hrng := scanN_range n f l T i
          have hsc : scanN n f l T (i + 1) = if angV n f (atV l i) = T ∧ (scanN n f l T i < 0 ∨ angV n (atV l (scanN n f l T i).toNat) (atV l i) = 1) then (i : Int) else scanN n f l T i := rfl
          rw [hat] at hsc
          have hfq := HF.out.2.2 _ hmem
          generalize l[i] = q at *
          have hqq := HF.out
          obtain ⟨A, hA⟩ : ∃ y, angV n f q = y := ⟨_, rfl⟩
          have hca := fun W => angle_any n f q W hqq.1 hqq.2.1 hfq
          rw [hA] at hsc hca
          have HA := Lib.hid hca
          have HQ := Lib.hid hfq
          clear hca hA hmem hat hqq hfq
          have HSC := Lib.hid hsc
          have HRG := Lib.hid hrng
          clear hsc hrng
          obtain ⟨acc, hacc⟩ : ∃ y, scanN n f l T i = y := ⟨_, rfl⟩
          rw [hacc] at HSC HRG
          rw [hacc]
          have g0 := (hb.cell (p := ⟨bb, off + i * 3, none⟩) hbl).trans g0
          have g1 := (hb.cell (p := ⟨bb, off + i * 3 + 1, none⟩) hbl).trans g1
          have g2 := (hb.cell (p := ⟨bb, off + i * 3 + 2, none⟩) hbl).trans g2
          clear hacc
          have k0 := k0.kept hb
          have k1 := k1.kept hb
          obtain ⟨wa, hwa⟩ : ∃ w', wr.alloc (.cells #[.int .i64 0, .int .i64 0, .int .i64 0] 24) = w' := ⟨_, rfl⟩
          have kk : Blk wa wr.heap.size #[.int .i64 0, .int .i64 0, .int .i64 0] 24 := by rw [← hwa]; exact Blk.new _ _ _
          have hk : Below wr.heap.size wr wa := by rw [← hwa]; exact (Below.refl _ _).alloc (Nat.le_refl _) _
          obtain ⟨ws, hws⟩ : ∃ w', (((wa.setCell ⟨wr.heap.size, 0, none⟩ (.int .i64 q.a)).setCell ⟨wr.heap.size, 1, none⟩ (.int .i64 q.b)).setCell ⟨wr.heap.size, 2, none⟩ (.int .i64 q.c)) = w' := ⟨_, rfl⟩
          have hjj : Below wr.heap.size wr ws := by rw [← hws]; exact ((hk.setCell (by simp only; omega) _).setCell (by simp only; omega) _).setCell (by simp only; omega) _
          have kv : Blk ws wr.heap.size #[.int .i64 q.a, .int .i64 q.b, .int .i64 q.c] 24 := by rw [← hws]; exact Blk.put3 kk _ _ _
          have z0 := kk.cell (i := 0) rfl
          have z1 := kk.cell (i := 1) rfl
          have z2 := kk.cell (i := 2) rfl
          have f0 := kk.frozen 0
          have f1 := kk.frozen 1
          have f2 := kk.frozen 2
          have k0 := k0.kept hjj
          have k1 := k1.kept hjj
          have hb := hb.trans (hjj.mono hb.size)
          have c0 := kv.cell (i := 0) rfl
          have c1 := kv.cell (i := 1) rfl
          have c2 := kv.cell (i := 2) rfl
          have p0 := k0.cell (i := 0) rfl
          have p1 := k0.cell (i := 1) rfl
          have p2 := k0.cell (i := 2) rfl
          have q0 := k1.cell (i := 0) rfl
          have q1 := k1.cell (i := 1) rfl
          have q2 := k1.cell (i := 2) rfl
          clear hjj hk
          go_wp2_with fail
          refine (HA.out _).mono ?_
          rintro e wz ⟨rfl, hb3⟩
          have hb := hb.trans (hb3.mono hb.size)
          have k0 := k0.kept hb3
          have kv := kv.kept hb3
          clear z0 z1 z2 f0 f1 f2 c0 c1 c2 p0 p1 p2 q0 q1 q2 k1 kk hwa hws hb3 g0 g1 g2 HA
          by_cases hAT : A = T
          · subst hAT
            by_cases hneg : acc < 0
            · have hS1 : scanN n f l A (i + 1) = (i : Int) := by rw [HSC.out, if_pos ⟨rfl, Or.inl hneg⟩]
              have HSN := Lib.hid hS1
              clear hS1
              go_upto_region 9 with fail
              go_cut [18, 40] from 18 to 42 (fun v18 v40 wx => v18 = .int .i64 (i : Int) ∧ v40 = .bool true ∧ Below wz.heap.size wz wx)
              case first =>
                refine wp_region_pure' (fun ix => match ix with | 0 => .int .i64 acc | 1 => .bool true | 2 => .bool true | 3 => undef | 4 => undef | 5 => undef | 6 => undef | 7 => undef | 8 => undef | 9 => undef | 10 => undef | _ => .bool true) (by kernel_rfl) (by kernel_rfl) ?_ ?_
                · rintro ix hx f ww hS hd
                  have ka := k0.kept hS
                  have kc := kv.kept hS
                  have a0_ := ka.cell (i := 0) rfl
                  have a1_ := ka.cell (i := 1) rfl
                  have a2_ := ka.cell (i := 2) rfl
                  have c0_ := kc.cell (i := 0) rfl
                  have c1_ := kc.cell (i := 1) rfl
                  have c2_ := kc.cell (i := 2) rfl
                  rcases ix with _ | _ | _ | _ | _ | _ | _ | _ | _ | _ | _ | _ | ix
                  · refine wpOp_list rfl ?_
                    simp only [tmOf, putAll, List.map_cons, List.map_nil, List.setIfInBounds_toArray, List.set_cons_zero, List.set_cons_succ]
                    go_wp2
                    simp [upd, Below.refl]
                  · have g0 : f 0 = .int .i64 acc := hd 0 (by kernel_rfl)
                    refine wpOp_list rfl ?_
                    simp only [tmOf, putAll, List.map_cons, List.map_nil, List.setIfInBounds_toArray, List.set_cons_zero, List.set_cons_succ]
                    go_wp2
                    simp [upd, g0, Below.refl]
                  · have g1 : f 1 = .bool true := hd 1 (by kernel_rfl)
                    refine wpOp_list rfl ?_
                    simp only [tmOf, putAll, List.map_cons, List.map_nil, List.setIfInBounds_toArray, List.set_cons_zero, List.set_cons_succ]
                    go_wp2
                    simp [upd, g1, Below.refl]
                  · have g2 : f 2 = .bool true := hd 2 (by kernel_rfl)
                    simp only [tmOf, putAll, List.map_cons, List.map_nil, List.setIfInBounds_toArray, List.set_cons_zero, List.set_cons_succ]
                    refine wpOp_off rfl (unwanted_of (b := true) rfl rfl rfl (congrArg some g2)) ?_
                    simp [tmOf, Act.put, putAll, upd, Below.refl]
                  · have g2 : f 2 = .bool true := hd 2 (by kernel_rfl)
                    simp only [tmOf, putAll, List.map_cons, List.map_nil, List.setIfInBounds_toArray, List.set_cons_zero, List.set_cons_succ]
                    refine wpOp_off rfl (unwanted_of (b := true) rfl rfl rfl (congrArg some g2)) ?_
                    simp [tmOf, Act.put, putAll, upd, Below.refl]
                  · have g2 : f 2 = .bool true := hd 2 (by kernel_rfl)
                    simp only [tmOf, putAll, List.map_cons, List.map_nil, List.setIfInBounds_toArray, List.set_cons_zero, List.set_cons_succ]
                    refine wpOp_off rfl (unwanted_of (b := true) rfl rfl rfl (congrArg some g2)) ?_
                    simp [tmOf, Act.put, putAll, upd, Below.refl]
                  · have g2 : f 2 = .bool true := hd 2 (by kernel_rfl)
                    simp only [tmOf, putAll, List.map_cons, List.map_nil, List.setIfInBounds_toArray, List.set_cons_zero, List.set_cons_succ]
                    refine wpOp_off rfl (unwanted_of (b := true) rfl rfl rfl (congrArg some g2)) ?_
                    simp [tmOf, Act.put, putAll, upd, Below.refl]
                  · have g2 : f 2 = .bool true := hd 2 (by kernel_rfl)
                    simp only [tmOf, putAll, List.map_cons, List.map_nil, List.setIfInBounds_toArray, List.set_cons_zero, List.set_cons_succ]
                    refine wpOp_off rfl (unwanted_of (b := true) rfl rfl rfl (congrArg some g2)) ?_
                    simp [tmOf, Act.put, putAll, upd, Below.refl]
                  · have g2 : f 2 = .bool true := hd 2 (by kernel_rfl)
                    simp only [tmOf, putAll, List.map_cons, List.map_nil, List.setIfInBounds_toArray, List.set_cons_zero, List.set_cons_succ]
                    refine wpOp_off rfl (unwanted_of (b := true) rfl rfl rfl (congrArg some g2)) ?_
                    simp [tmOf, Act.put, putAll, upd, Below.refl]
                  · have g2 : f 2 = .bool true := hd 2 (by kernel_rfl)
                    simp only [tmOf, putAll, List.map_cons, List.map_nil, List.setIfInBounds_toArray, List.set_cons_zero, List.set_cons_succ]
                    refine wpOp_off rfl (unwanted_of (b := true) rfl rfl rfl (congrArg some g2)) ?_
                    simp [tmOf, Act.put, putAll, upd, Below.refl]
                  · have g2 : f 2 = .bool true := hd 2 (by kernel_rfl)
                    simp only [tmOf, putAll, List.map_cons, List.map_nil, List.setIfInBounds_toArray, List.set_cons_zero, List.set_cons_succ]
                    refine wpOp_off rfl (unwanted_of (b := true) rfl rfl rfl (congrArg some g2)) ?_
                    simp [tmOf, Act.put, putAll, upd, Below.refl]
                  · have g2 : f 2 = .bool true := hd 2 (by kernel_rfl)
                    have g10 : f 10 = undef := hd 10 (by kernel_rfl)
                    refine wpOp_list rfl ?_
                    simp only [tmOf, putAll, List.map_cons, List.map_nil, List.setIfInBounds_toArray, List.set_cons_zero, List.set_cons_succ]
                    go_wp2
                    simp [upd, g2, g10, Below.refl]
                  · simp only [List.length_cons, List.length_nil] at hx; omega
                · rintro f' ww hS hd
                  have gl : f' 11 = .bool true := hd 11 (by decide)
                  simp only [tmOf, putAll, List.map_cons, List.map_nil, List.setIfInBounds_toArray, List.set_cons_zero, List.set_cons_succ]
                  refine ‹∀ (a' : Act) (w' : World), Met _ a' w' → _› _ _ ?_
                  go_meet
                  case rel => exact ⟨rfl, gl, hS⟩
              case rest =>
              obtain ⟨rfl, rfl, hbx⟩ := hcut
              have hb := hb.trans (hbx.mono hb.size)
              clear hbx k0 kv
              go_wp2_with fail
              go_roundg (m - (i + 1))
              case measure => rw [HGK.out]; omega
              case rel => exact ⟨i + 1, by omega, rfl, by go_num, by rw [HSN.out], hb⟩
            · obtain ⟨k, rfl⟩ : ∃ k : Nat, acc = (k : Int) := ⟨acc.toNat, by omega⟩
              have hkm : k < m := by have := HRG.out.2; omega
              have hkl : k < l.length := by rw [HL.out]; exact hkm
              have hkmi : (k : Int) < (m : Int) := by omega
              obtain ⟨b2, off2, he, hbu, e0, e1, e2⟩ := HR.out k _ (List.getElem?_eq_getElem hkl)
              cases he
              have hmem := List.getElem_mem hkl
              have hat : atV l (k : Int).toNat = l[k] := by unfold atV; rw [Int.toNat_natCast, List.getElem?_eq_getElem hkl]; rfl
              have hfu := HF.out.2.2 _ hmem
              have hsc := HSC.out
              rw [hat] at hsc
              generalize l[k] = u at *
              have e0 := (hb.cell (p := ⟨bb, off + k * 3, none⟩) hbu).trans e0
              have e1 := (hb.cell (p := ⟨bb, off + k * 3 + 1, none⟩) hbu).trans e1
              have e2 := (hb.cell (p := ⟨bb, off + k * 3 + 2, none⟩) hbu).trans e2
              have hbu := Nat.lt_of_lt_of_le hbu hb.size
              have hcu := fun W => angle_any n u q W HF.out.1 hfu HQ.out
              obtain ⟨D, hD⟩ : ∃ y, angV n u q = y := ⟨_, rfl⟩
              rw [hD] at hcu hsc
              have HU := Lib.hid hcu
              clear hcu hD hmem hat hfu
              by_cases hD1 : D = 1
              · subst hD1
                have hS1 : scanN n f l A (i + 1) = (i : Int) := by rw [hsc, if_pos ⟨rfl, Or.inr rfl⟩]
                have HSN := Lib.hid hS1
                clear hS1 hsc
                go_upto_region 9 with fail
                go_cut [18, 40] from 18 to 42 (fun v18 v40 wx => v18 = .int .i64 (i : Int) ∧ v40 = .bool true ∧ Below wz.heap.size wz wx)
                case first =>
                  refine wp_region_pure' (fun ix => match ix with | 0 => .int .i64 k | 1 => .bool false | 2 => .bool false | 3 => .agg #[.int .i64 n.a, .int .i64 n.b, .int .i64 n.c] | 4 => .slice (some ⟨bb, off, none⟩) m c | 5 => .int .i64 k | 6 => .pointer (some ⟨bb, off + k * 3, none⟩) | 7 => .agg #[.int .i64 u.a, .int .i64 u.b, .int .i64 u.c] | 8 => .agg #[.int .i64 q.a, .int .i64 q.b, .int .i64 q.c] | 9 => .int .i64 1 | 10 => .bool true | _ => .bool true) (by kernel_rfl) (by kernel_rfl) ?_ ?_
                  · rintro ix hx f ww hS hd
                    have ka := k0.kept hS
                    have kc := kv.kept hS
                    have a0_ := ka.cell (i := 0) rfl
                    have a1_ := ka.cell (i := 1) rfl
                    have a2_ := ka.cell (i := 2) rfl
                    have c0_ := kc.cell (i := 0) rfl
                    have c1_ := kc.cell (i := 1) rfl
                    have c2_ := kc.cell (i := 2) rfl
                    have e0_ := (hS.cell (p := ⟨bb, off + k * 3, none⟩) hbu).trans e0
                    have e1_ := (hS.cell (p := ⟨bb, off + k * 3 + 1, none⟩) hbu).trans e1
                    have e2_ := (hS.cell (p := ⟨bb, off + k * 3 + 2, none⟩) hbu).trans e2
                    rcases ix with _ | _ | _ | _ | _ | _ | _ | _ | _ | _ | _ | _ | ix
                    · refine wpOp_list rfl ?_
                      simp only [tmOf, putAll, List.map_cons, List.map_nil, List.setIfInBounds_toArray, List.set_cons_zero, List.set_cons_succ]
                      go_wp2
                      simp [upd, Below.refl]
                    · have g0 : f 0 = .int .i64 k := hd 0 (by kernel_rfl)
                      refine wpOp_list rfl ?_
                      simp only [tmOf, putAll, List.map_cons, List.map_nil, List.setIfInBounds_toArray, List.set_cons_zero, List.set_cons_succ]
                      go_wp2
                      simp [upd, g0, Below.refl]
                    · have g1 : f 1 = .bool false := hd 1 (by kernel_rfl)
                      refine wpOp_list rfl ?_
                      simp only [tmOf, putAll, List.map_cons, List.map_nil, List.setIfInBounds_toArray, List.set_cons_zero, List.set_cons_succ]
                      go_wp2
                      simp [upd, g1, Below.refl]
                    · have g2 : f 2 = .bool false := hd 2 (by kernel_rfl)
                      simp only [tmOf, putAll, List.map_cons, List.map_nil, List.setIfInBounds_toArray, List.set_cons_zero, List.set_cons_succ]
                      refine wpOp_on rfl (wanted_of (b := false) rfl rfl rfl (congrArg some g2)) ?_
                      go_wp2
                      simp [upd, g2, Below.refl]
                    · have g2 : f 2 = .bool false := hd 2 (by kernel_rfl)
                      simp only [tmOf, putAll, List.map_cons, List.map_nil, List.setIfInBounds_toArray, List.set_cons_zero, List.set_cons_succ]
                      refine wpOp_on rfl (wanted_of (b := false) rfl rfl rfl (congrArg some g2)) ?_
                      go_wp2
                      simp [upd, g2, Below.refl]
                    · have g2 : f 2 = .bool false := hd 2 (by kernel_rfl)
                      simp only [tmOf, putAll, List.map_cons, List.map_nil, List.setIfInBounds_toArray, List.set_cons_zero, List.set_cons_succ]
                      refine wpOp_on rfl (wanted_of (b := false) rfl rfl rfl (congrArg some g2)) ?_
                      go_wp2
                      simp [upd, g2, Below.refl]
                    · have g4 : f 4 = .slice (some ⟨bb, off, none⟩) m c := hd 4 (by kernel_rfl)
                      have g5 : f 5 = .int .i64 k := hd 5 (by kernel_rfl)
                      have g2 : f 2 = .bool false := hd 2 (by kernel_rfl)
                      simp only [tmOf, putAll, List.map_cons, List.map_nil, List.setIfInBounds_toArray, List.set_cons_zero, List.set_cons_succ]
                      refine wpOp_on rfl (wanted_of (b := false) rfl rfl rfl (congrArg some g2)) ?_
                      go_wp2
                      simp [upd, g4, g5, g2, Below.refl]
                    · have g6 : f 6 = .pointer (some ⟨bb, off + k * 3, none⟩) := hd 6 (by kernel_rfl)
                      have g2 : f 2 = .bool false := hd 2 (by kernel_rfl)
                      simp only [tmOf, putAll, List.map_cons, List.map_nil, List.setIfInBounds_toArray, List.set_cons_zero, List.set_cons_succ]
                      refine wpOp_on rfl (wanted_of (b := false) rfl rfl rfl (congrArg some g2)) ?_
                      go_wp2
                      simp [upd, g6, g2, Below.refl]
                    · have g2 : f 2 = .bool false := hd 2 (by kernel_rfl)
                      simp only [tmOf, putAll, List.map_cons, List.map_nil, List.setIfInBounds_toArray, List.set_cons_zero, List.set_cons_succ]
                      refine wpOp_on rfl (wanted_of (b := false) rfl rfl rfl (congrArg some g2)) ?_
                      go_wp2
                      simp [upd, g2, Below.refl]
                    · have g3 : f 3 = .agg #[.int .i64 n.a, .int .i64 n.b, .int .i64 n.c] := hd 3 (by kernel_rfl)
                      have g7 : f 7 = .agg #[.int .i64 u.a, .int .i64 u.b, .int .i64 u.c] := hd 7 (by kernel_rfl)
                      have g8 : f 8 = .agg #[.int .i64 q.a, .int .i64 q.b, .int .i64 q.c] := hd 8 (by kernel_rfl)
                      have g2 : f 2 = .bool false := hd 2 (by kernel_rfl)
                      simp only [tmOf, putAll, List.map_cons, List.map_nil, List.setIfInBounds_toArray, List.set_cons_zero, List.set_cons_succ]
                      refine wpOp_on rfl (wanted_of (b := false) rfl rfl rfl (congrArg some g2)) ?_
                      go_wp2_with fail
                      refine (HU.out _).mono ?_
                      rintro e' wf ⟨rfl, hbf⟩
                      go_wp2_with fail
                      simp [upd, g3, g7, g8, g2, hbf]
                    · have g9 : f 9 = .int .i64 1 := hd 9 (by kernel_rfl)
                      have g2 : f 2 = .bool false := hd 2 (by kernel_rfl)
                      simp only [tmOf, putAll, List.map_cons, List.map_nil, List.setIfInBounds_toArray, List.set_cons_zero, List.set_cons_succ]
                      refine wpOp_on rfl (wanted_of (b := false) rfl rfl rfl (congrArg some g2)) ?_
                      go_wp2
                      simp [upd, g9, g2, Below.refl]
                    · have g2 : f 2 = .bool false := hd 2 (by kernel_rfl)
                      have g10 : f 10 = .bool true := hd 10 (by kernel_rfl)
                      refine wpOp_list rfl ?_
                      simp only [tmOf, putAll, List.map_cons, List.map_nil, List.setIfInBounds_toArray, List.set_cons_zero, List.set_cons_succ]
                      go_wp2
                      simp [upd, g2, g10, Below.refl]
                    · simp only [List.length_cons, List.length_nil] at hx; omega
                  · rintro f' ww hS hd
                    have gl : f' 11 = .bool true := hd 11 (by decide)
                    simp only [tmOf, putAll, List.map_cons, List.map_nil, List.setIfInBounds_toArray, List.set_cons_zero, List.set_cons_succ]
                    refine ‹∀ (a' : Act) (w' : World), Met _ a' w' → _› _ _ ?_
                    go_meet
                    case rel => exact ⟨rfl, gl, hS⟩
                case rest =>
                obtain ⟨rfl, rfl, hbx⟩ := hcut
                have hb := hb.trans (hbx.mono hb.size)
                clear hbx k0 kv
                go_wp2_with fail
                go_roundg (m - (i + 1))
                case measure => rw [HGK.out]; omega
                case rel => exact ⟨i + 1, by omega, rfl, by go_num, by rw [HSN.out], hb⟩
              · have hS1 : scanN n f l A (i + 1) = (k : Int) := by rw [hsc, if_neg (fun h => h.2.elim (fun h => by omega) hD1)]
                have HSN := Lib.hid hS1
                have hD2 : (D == 1) = false := by simp [hD1]
                clear hS1 hsc hD1
                go_upto_region 9 with fail
                go_cut [18, 40] from 18 to 42 (fun v18 v40 wx => v18 = .int .i64 (i : Int) ∧ v40 = .bool false ∧ Below wz.heap.size wz wx)
                case first =>
                  refine wp_region_pure' (fun ix => match ix with | 0 => .int .i64 k | 1 => .bool false | 2 => .bool false | 3 => .agg #[.int .i64 n.a, .int .i64 n.b, .int .i64 n.c] | 4 => .slice (some ⟨bb, off, none⟩) m c | 5 => .int .i64 k | 6 => .pointer (some ⟨bb, off + k * 3, none⟩) | 7 => .agg #[.int .i64 u.a, .int .i64 u.b, .int .i64 u.c] | 8 => .agg #[.int .i64 q.a, .int .i64 q.b, .int .i64 q.c] | 9 => .int .i64 D | 10 => .bool false | _ => .bool false) (by kernel_rfl) (by kernel_rfl) ?_ ?_
                  · rintro ix hx f ww hS hd
                    have ka := k0.kept hS
                    have kc := kv.kept hS
                    have a0_ := ka.cell (i := 0) rfl
                    have a1_ := ka.cell (i := 1) rfl
                    have a2_ := ka.cell (i := 2) rfl
                    have c0_ := kc.cell (i := 0) rfl
                    have c1_ := kc.cell (i := 1) rfl
                    have c2_ := kc.cell (i := 2) rfl
                    have e0_ := (hS.cell (p := ⟨bb, off + k * 3, none⟩) hbu).trans e0
                    have e1_ := (hS.cell (p := ⟨bb, off + k * 3 + 1, none⟩) hbu).trans e1
                    have e2_ := (hS.cell (p := ⟨bb, off + k * 3 + 2, none⟩) hbu).trans e2
                    rcases ix with _ | _ | _ | _ | _ | _ | _ | _ | _ | _ | _ | _ | ix
                    · refine wpOp_list rfl ?_
                      simp only [tmOf, putAll, List.map_cons, List.map_nil, List.setIfInBounds_toArray, List.set_cons_zero, List.set_cons_succ]
                      go_wp2
                      simp [upd, Below.refl]
                    · have g0 : f 0 = .int .i64 k := hd 0 (by kernel_rfl)
                      refine wpOp_list rfl ?_
                      simp only [tmOf, putAll, List.map_cons, List.map_nil, List.setIfInBounds_toArray, List.set_cons_zero, List.set_cons_succ]
                      go_wp2
                      simp [upd, g0, Below.refl]
                    · have g1 : f 1 = .bool false := hd 1 (by kernel_rfl)
                      refine wpOp_list rfl ?_
                      simp only [tmOf, putAll, List.map_cons, List.map_nil, List.setIfInBounds_toArray, List.set_cons_zero, List.set_cons_succ]
                      go_wp2
                      simp [upd, g1, Below.refl]
                    · have g2 : f 2 = .bool false := hd 2 (by kernel_rfl)
                      simp only [tmOf, putAll, List.map_cons, List.map_nil, List.setIfInBounds_toArray, List.set_cons_zero, List.set_cons_succ]
                      refine wpOp_on rfl (wanted_of (b := false) rfl rfl rfl (congrArg some g2)) ?_
                      go_wp2
                      simp [upd, g2, Below.refl]
                    · have g2 : f 2 = .bool false := hd 2 (by kernel_rfl)
                      simp only [tmOf, putAll, List.map_cons, List.map_nil, List.setIfInBounds_toArray, List.set_cons_zero, List.set_cons_succ]
                      refine wpOp_on rfl (wanted_of (b := false) rfl rfl rfl (congrArg some g2)) ?_
                      go_wp2
                      simp [upd, g2, Below.refl]
                    · have g2 : f 2 = .bool false := hd 2 (by kernel_rfl)
                      simp only [tmOf, putAll, List.map_cons, List.map_nil, List.setIfInBounds_toArray, List.set_cons_zero, List.set_cons_succ]
                      refine wpOp_on rfl (wanted_of (b := false) rfl rfl rfl (congrArg some g2)) ?_
                      go_wp2
                      simp [upd, g2, Below.refl]
                    · have g4 : f 4 = .slice (some ⟨bb, off, none⟩) m c := hd 4 (by kernel_rfl)
                      have g5 : f 5 = .int .i64 k := hd 5 (by kernel_rfl)
                      have g2 : f 2 = .bool false := hd 2 (by kernel_rfl)
                      simp only [tmOf, putAll, List.map_cons, List.map_nil, List.setIfInBounds_toArray, List.set_cons_zero, List.set_cons_succ]
                      refine wpOp_on rfl (wanted_of (b := false) rfl rfl rfl (congrArg some g2)) ?_
                      go_wp2
                      simp [upd, g4, g5, g2, Below.refl]
                    · have g6 : f 6 = .pointer (some ⟨bb, off + k * 3, none⟩) := hd 6 (by kernel_rfl)
                      have g2 : f 2 = .bool false := hd 2 (by kernel_rfl)
                      simp only [tmOf, putAll, List.map_cons, List.map_nil, List.setIfInBounds_toArray, List.set_cons_zero, List.set_cons_succ]
                      refine wpOp_on rfl (wanted_of (b := false) rfl rfl rfl (congrArg some g2)) ?_
                      go_wp2
                      simp [upd, g6, g2, Below.refl]
                    · have g2 : f 2 = .bool false := hd 2 (by kernel_rfl)
                      simp only [tmOf, putAll, List.map_cons, List.map_nil, List.setIfInBounds_toArray, List.set_cons_zero, List.set_cons_succ]
                      refine wpOp_on rfl (wanted_of (b := false) rfl rfl rfl (congrArg some g2)) ?_
                      go_wp2
                      simp [upd, g2, Below.refl]
                    · have g3 : f 3 = .agg #[.int .i64 n.a, .int .i64 n.b, .int .i64 n.c] := hd 3 (by kernel_rfl)
                      have g7 : f 7 = .agg #[.int .i64 u.a, .int .i64 u.b, .int .i64 u.c] := hd 7 (by kernel_rfl)
                      have g8 : f 8 = .agg #[.int .i64 q.a, .int .i64 q.b, .int .i64 q.c] := hd 8 (by kernel_rfl)
                      have g2 : f 2 = .bool false := hd 2 (by kernel_rfl)
                      simp only [tmOf, putAll, List.map_cons, List.map_nil, List.setIfInBounds_toArray, List.set_cons_zero, List.set_cons_succ]
                      refine wpOp_on rfl (wanted_of (b := false) rfl rfl rfl (congrArg some g2)) ?_
                      go_wp2_with fail
                      refine (HU.out _).mono ?_
                      rintro e' wf ⟨rfl, hbf⟩
                      go_wp2_with fail
                      simp [upd, g3, g7, g8, g2, hbf]
                    · have g9 : f 9 = .int .i64 D := hd 9 (by kernel_rfl)
                      have g2 : f 2 = .bool false := hd 2 (by kernel_rfl)
                      simp only [tmOf, putAll, List.map_cons, List.map_nil, List.setIfInBounds_toArray, List.set_cons_zero, List.set_cons_succ]
                      refine wpOp_on rfl (wanted_of (b := false) rfl rfl rfl (congrArg some g2)) ?_
                      go_wp2
                      simp [upd, g9, g2, Below.refl]
                    · have g2 : f 2 = .bool false := hd 2 (by kernel_rfl)
                      have g10 : f 10 = .bool false := hd 10 (by kernel_rfl)
                      refine wpOp_list rfl ?_
                      simp only [tmOf, putAll, List.map_cons, List.map_nil, List.setIfInBounds_toArray, List.set_cons_zero, List.set_cons_succ]
                      go_wp2
                      simp [upd, g2, g10, Below.refl]
                    · simp only [List.length_cons, List.length_nil] at hx; omega
                  · rintro f' ww hS hd
                    have gl : f' 11 = .bool false := hd 11 (by decide)
                    simp only [tmOf, putAll, List.map_cons, List.map_nil, List.setIfInBounds_toArray, List.set_cons_zero, List.set_cons_succ]
                    refine ‹∀ (a' : Act) (w' : World), Met _ a' w' → _› _ _ ?_
                    go_meet
                    case rel => exact ⟨rfl, gl, hS⟩
                case rest =>
                obtain ⟨rfl, rfl, hbx⟩ := hcut
                have hb := hb.trans (hbx.mono hb.size)
                clear hbx k0 kv
                go_wp2_with fail
                go_roundg (m - (i + 1))
                case measure => rw [HGK.out]; omega
                case rel => exact ⟨i + 1, by omega, rfl, by go_num, by rw [HSN.out], hb⟩
          · have hS1 : scanN n f l T (i + 1) = acc := by rw [HSC.out, if_neg (fun h => hAT h.1)]
            have HSN := Lib.hid hS1
            have hA1 : (A == T) = false := by simp [hAT]
            have hA2 : (A != T) = true := by simp [hAT]
            clear hS1 hAT k0 kv
            go_wp2_with fail
            go_roundg (m - (i + 1))
            case measure => rw [HGK.out]; omega
            case rel => exact ⟨i + 1, by omega, rfl, by go_num, by rw [HSN.out], hb⟩
        · obtain rfl : i = m := by omega
          have hrng := scanN_range n f l T i
          have hfv : 0 ≤ scanN n f l T i → firstV n f l = scanN n f l T i := fun h0 => by
            have h1 := firstV_at (n := n) (f := f) (l := l) hj4 (by rw [HL.out]; exact HJ.out) (by rw [HL.out, HT.out]; exact h0)
            rw [h1, HL.out, HT.out]
          have hnx : scanN n f l T i < 0 → ∀ x : Nat, x < j + 1 → scanN n f l (3 - (x : Int)) i < 0 := fun h0 x hx => by
            by_cases hxj : x < j
            · exact HJ.out x hxj
            · obtain rfl : x = j := by omega
              rw [HT.out]; exact h0
          obtain ⟨s, hs⟩ : ∃ y, scanN n f l T i = y := ⟨_, rfl⟩
          rw [hs] at hrng hfv hnx
          rw [hs]
          have HFV := Lib.hid hfv
          have HNX := Lib.hid hnx
          clear hfv hnx hs
          by_cases hs0 : 0 ≤ s
          · have hR := HFV.out hs0
            have HRR := Lib.hid hR
            have hlt' : ¬ (i : Int) < (i : Int) := by omega
            clear hR
            go_wp2_with fail
            try simp only [Exit.inBlock, Exit.then, Exit.noGoto_ret]
            go_ret
            exact ⟨congrArg (fun z : Int => Ending.returned (.int .i64 z)) HRR.out.symm, hb1.trans (hb.mono hb1.size)⟩
          · obtain rfl : s = -1 := by omega
            have hlt' : ¬ (i : Int) < (i : Int) := by omega
            go_wp2_with fail
            go_roundg (4 - (j + 1))
            case measure => rw [HGJ.out]; omega
            case rel => exact ⟨j + 1, by omega, rfl, by go_num, rfl, fun x hx => HNX.out (by omega) x hx, hb⟩
    · obtain rfl : j = 4 := by omega
      have hR : firstV n f l = -1 := firstV_none (by rw [HL.out]; exact HJ.out)
      have HRR := Lib.hid hR
      clear hR
      go_wp2_with fail
      try simp only [Exit.inBlock, Exit.then, Exit.noGoto_ret]
      go_ret
      exact ⟨congrArg (fun z : Int => Ending.returned (.int .i64 z)) HRR.out.symm, hb1.trans (hb.mono hb1.size)⟩

end Go.Proofs.YtimkeblcdodfmaaGreat

namespace Go.Proofs.YtimkeblcdodfmaaGreat
open Go.RowKit Go.Shelf
attribute [local go_sem] Oper.semAt_some

theorem checks4 (w : World) (v u x y : Value) (r s k l : Int) (t : TypeId) (h : ChkIs w v r) (h2 : ChkIs w u s) (h3 : ChkIs w x k) (h4 : ChkIs w y l) : RdC (w.alloc (.cells #[v, u, x, y] t)) (some ⟨w.heap.size, 0, none⟩) [r, s, k, l] := by
  have hB := Blk.new w #[v, u, x, y] t
  have hb := (Below.refl _ w).alloc (Nat.le_refl _) (.cells #[v, u, x, y] t)
  intro i z hi
  match i, hi with
  | 0, hi => cases hi; exact ⟨_, 0, v, rfl, hB.lt, hB.cell (i := 0) rfl, h.below hb⟩
  | 1, hi => cases hi; exact ⟨_, 0, u, rfl, hB.lt, hB.cell (i := 1) rfl, h2.below hb⟩
  | 2, hi => cases hi; exact ⟨_, 0, x, rfl, hB.lt, hB.cell (i := 2) rfl, h3.below hb⟩
  | 3, hi => cases hi; exact ⟨_, 0, y, rfl, hB.lt, hB.cell (i := 3) rfl, h4.below hb⟩
  | i + 4, hi => simp at hi

/-- ErrArg for no vector, or for too many. -/
def someE (m : Nat) : Int := if m = 0 ∨ 1000 < m then 1 else 0

set_option maxRecDepth 100000 in
set_option maxHeartbeats 4000000 in
theorem some_closure (b0 m : Nat) (w : World) (k0 : Blk w b0 #[.int .i64 (m : Int)] 3) :
    Calls Tryz.prog 104 #[.pointer (some ⟨b0, 0, none⟩)] w fun e w' => e = .returned (.int .i64 (someE m)) ∧ Below w.heap.size w w' := by
  have c0 := k0.cell (i := 0) rfl
  by_cases h0 : m = 0
  · subst h0
    have hE : someE 0 = 1 := rfl
    have HE := Lib.hid hE
    clear hE
    go_enter Tryz.func104, Tryz.ntmps104
    go_wp2_with fail
    go_ret
    exact ⟨by rw [HE.out]; rfl, Below.refl _ _⟩
  · have h1 : ((m : Int) == 0) = false := by simp; omega
    by_cases h2 : 1000 < m
    · have hE : someE m = 1 := by unfold someE; rw [if_pos (Or.inr h2)]
      have HE := Lib.hid hE
      have h3 : (1000 : Int) < (m : Int) := by omega
      clear hE h0 h2
      go_enter Tryz.func104, Tryz.ntmps104
      go_wp2_with fail
      go_ret
      exact ⟨by rw [HE.out]; rfl, Below.refl _ _⟩
    · have hE : someE m = 0 := by unfold someE; rw [if_neg (by omega)]
      have HE := Lib.hid hE
      have h3 : ¬ (1000 : Int) < (m : Int) := by omega
      clear hE h0 h2
      go_enter Tryz.func104, Tryz.ntmps104
      go_wp2_with fail
      go_ret
      exact ⟨by rw [HE.out]; rfl, Below.refl _ _⟩

set_option maxRecDepth 100000 in
set_option maxHeartbeats 2000000 in
theorem some_any (m : Nat) (w : World) :
    Calls Tryz.prog 73 #[.int .i64 (m : Int)] w fun e w' => ∃ v, e = .returned v ∧ ChkIs w' v (someE m) ∧ Below w.heap.size w w' := by
  have hb0 : Below w.heap.size w (w.alloc (.cells #[.int .i64 (m : Int)] 3)) := (Below.refl _ w).alloc (Nat.le_refl _) _
  have k0 : Blk (w.alloc (.cells #[.int .i64 (m : Int)] 3)) w.heap.size #[.int .i64 (m : Int)] 3 := Blk.new w _ _
  go_enter Tryz.func73, Tryz.ntmps73
  go_wp2
  go_ret
  refine ⟨_, rfl, ⟨_, _, rfl, enters_of Tryz.func104 (by kernel_rfl) rfl, fun W hW => ?_⟩, hb0⟩
  exact some_closure _ m W (k0.kept hW)

/-- The error of a plane, a vector and others. -/
def clkE (p : V4) (y : V3) (l : List V3) : Int := firstE [errE (decide (RightQ p)) 30, someE l.length, errE ([y].all (isInB p)) 1, errE (l.all (isInB p)) 1]
theorem firstE_cons0 {r : Int} {l : List Int} (h : firstE (r :: l) = 0) : r = 0 ∧ firstE l = 0 := by
  unfold firstE at h
  split at h <;> simp_all [firstE]
theorem errE_zero {b : Bool} {E : Int} (hE : E ≠ 0) (h : errE b E = 0) : b = true := by
  cases b with
  | true => rfl
  | false => exact absurd h hE
theorem clkE_good {p : V4} {y : V3} {l : List V3} (h : clkE p y l = 0) : RightQ p ∧ isInB p y = true ∧ (∀ v ∈ l, isInB p v = true) := by
  unfold clkE at h
  have h1 := firstE_cons0 h
  have h2 := firstE_cons0 h1.2
  have h3 := firstE_cons0 h2.2
  have h4 := firstE_cons0 h3.2
  refine ⟨of_decide_eq_true (errE_zero (by decide) h1.1), ?_, List.all_eq_true.1 (errE_zero (by decide) h4.1)⟩
  have := errE_zero (by decide) h3.1
  simpa using this
def clkS (p : V4) (y : V3) (l : List V3) : Int := if clkE p y l = 0 then firstV (nrm p) y l else 0

set_option maxRecDepth 100000 in
set_option maxHeartbeats 8000000 in
theorem clockwise_any (p : V4) (y : V3) (a : Option Addr) (m c : Nat) (l : List V3) (w : World) (hp : InV p) (hl : l.length = m) (hm : m ≤ 1000000000) (hr : RdD w a l) :
    Calls Tryz.prog 40 #[.agg #[.int .i64 p.a, .int .i64 p.b, .int .i64 p.c, .int .i64 p.d], .agg #[.int .i64 y.a, .int .i64 y.b, .int .i64 y.c], .slice a m c] w fun e w' => e = .returned (.tuple #[.int .i64 (clkS p y l), .int .i64 (clkE p y l)]) ∧ Below w.heap.size w w' := by
  obtain ⟨w1, hw1⟩ : ∃ w1, ((w.alloc (.cells #[.int .i64 p.a, .int .i64 p.b, .int .i64 p.c, .int .i64 p.d] 23)).alloc (.cells #[.int .i64 y.a, .int .i64 y.b, .int .i64 y.c] 24)) = w1 := ⟨_, rfl⟩
  have hb1 : Below w.heap.size w w1 := by rw [← hw1]; exact bw2 w _ _
  have k0 : Blk w1 (w.heap.size) #[.int .i64 p.a, .int .i64 p.b, .int .i64 p.c, .int .i64 p.d] 23 := by rw [← hw1]; exact ((Blk.new w _ _).alloc _)
  have k1 : Blk w1 (w.heap.size + 1) #[.int .i64 y.a, .int .i64 y.b, .int .i64 y.c] 24 := by rw [← hw1]; exact (Blk.new' _ _ _ (by simp))
  have hpl : ∀ b W, RdV W (some ⟨b, 0, none⟩) [p] → Calls Tryz.prog 46 #[.slice (some ⟨b, 0, none⟩) 1 1] W fun e w' => ∃ v, e = .returned v ∧ ChkIs w' v (errE (decide (RightQ p)) 30) ∧ Below W.heap.size W w' := fun b W hR => by
    have h := planes_any (some ⟨b, 0, none⟩) 1 1 [p] W rfl (by decide) hR (fun x hx => by
      rw [List.mem_singleton.1 hx]; exact hp)
    simpa [RightQ] using h
  have hcr := fun b W (hR : RdD W (some ⟨b, 0, none⟩) [y]) => areIn_any p (some ⟨b, 0, none⟩) 1 1 [y] W rfl (by decide) hR
  have hcl := fun W (hR : RdD W a l) => areIn_any p a m c l W hl hm hR
  have hsm := fun W => some_any m W
  have hE : firstE [errE (decide (RightQ p)) 30, someE m, errE ([y].all (isInB p)) 1, errE (l.all (isInB p)) 1] = clkE p y l := by unfold clkE; rw [hl]
  obtain ⟨rp, hrp⟩ : ∃ e0, errE (decide (RightQ p)) 30 = e0 := ⟨_, rfl⟩
  obtain ⟨rs, hrs⟩ : ∃ e0, someE m = e0 := ⟨_, rfl⟩
  obtain ⟨rf, hrf⟩ : ∃ e0, errE ([y].all (isInB p)) 1 = e0 := ⟨_, rfl⟩
  obtain ⟨rl, hrl⟩ : ∃ e0, errE (l.all (isInB p)) 1 = e0 := ⟨_, rfl⟩
  rw [hrp] at hpl
  rw [hrp, hrs, hrf, hrl] at hE
  simp only [hrf] at hcr
  simp only [hrl] at hcl
  simp only [hrs] at hsm
  have HPL := Lib.hid hpl
  have HCR := Lib.hid hcr
  have HCL := Lib.hid hcl
  have HSM := Lib.hid hsm
  obtain ⟨E, hEE⟩ : ∃ E, clkE p y l = E := ⟨_, rfl⟩
  rw [hEE] at hE
  obtain ⟨s, hs⟩ : ∃ s, clkS p y l = s := ⟨_, rfl⟩
  have hbad : ¬ E = 0 → s = 0 := fun h0 => by rw [← hs]; unfold clkS; rw [if_neg (by rw [hEE]; exact h0)]
  have hgood : E = 0 → ∃ (n : V3), (∀ W, Calls Tryz.prog 51 #[.agg #[.int .i64 p.a, .int .i64 p.b, .int .i64 p.c, .int .i64 p.d]] W fun e w' => e = .returned (.agg #[.int .i64 n.a, .int .i64 n.b, .int .i64 n.c]) ∧ Below W.heap.size W w') ∧ (∀ W, RdD W a l → Calls Tryz.prog 74 #[.agg #[.int .i64 n.a, .int .i64 n.b, .int .i64 n.c], .agg #[.int .i64 y.a, .int .i64 y.b, .int .i64 y.c], .slice a m c] W fun e w' => e = .returned (.int .i64 s) ∧ Below W.heap.size W w') := fun h0 => by
    have hk : clkE p y l = 0 := by rw [hEE]; exact h0
    obtain ⟨h1, h2, h3⟩ := clkE_good hk
    refine ⟨nrm p, fun W => normal_any p W, fun W hR => ?_⟩
    have h := firstL_any (nrm p) y a m c l W hl hm hR (nrm_far h1) (isInB_far h2) (fun z hz => isInB_far (h3 z hz))
    rw [← hs]; unfold clkS; rw [if_pos hk]; exact h
  rw [hEE, hs]
  have HE := Lib.hid hE
  have HG := Lib.hid hgood
  have HBD := Lib.hid hbad
  have HRD := Lib.hid (hr.below hb1)
  clear hpl hcr hcl hsm hrp hrs hrf hrl hE hEE hs hgood hbad hp hr hl
  go_enter Tryz.func40, Tryz.ntmps40
  go_upto_region 1 with fail
  go_cut [8] from 9 to 23 (fun v8 wx => v8 = .int .i64 (firstE [rp, rs, rf, rl]) ∧ Below w1.heap.size w1 wx)
  case first =>
    refine wp_region_kn' (fun ix => ix != 1 && ix != 2 && ix != 5 && ix != 8 && ix != 9 && ix != 12 && ix != 13) (fun ix => match ix with | 0 => .agg #[.int .i64 p.a, .int .i64 p.b, .int .i64 p.c, .int .i64 p.d] | 3 => .slice a m c | 4 => .int .i64 (m : Int) | 6 => .agg #[.int .i64 p.a, .int .i64 p.b, .int .i64 p.c, .int .i64 p.d] | 7 => .agg #[.int .i64 y.a, .int .i64 y.b, .int .i64 y.c] | 10 => .agg #[.int .i64 p.a, .int .i64 p.b, .int .i64 p.c, .int .i64 p.d] | 11 => .slice a m c | 14 => .int .i64 (firstE [rp, rs, rf, rl]) | _ => .int .i64 (firstE [rp, rs, rf, rl])) (fun ix v w => match ix with | 1 => ∃ b, v = .slice (some ⟨b, 0, none⟩) 1 1 ∧ RdV w (some ⟨b, 0, none⟩) [p] | 2 => ChkIs w v rp | 5 => ChkIs w v rs | 8 => ∃ b, v = .slice (some ⟨b, 0, none⟩) 1 1 ∧ RdD w (some ⟨b, 0, none⟩) [y] | 9 => ChkIs w v rf | 12 => ChkIs w v rl | _ => ∃ b, v = .slice (some ⟨b, 0, none⟩) 4 4 ∧ RdC w (some ⟨b, 0, none⟩) [rp, rs, rf, rl]) (by kernel_rfl) (by kernel_rfl) ?_ ?_ ?_
    · intro ix v w8 w9 hb h
      rcases ix with _ | _ | _ | _ | _ | _ | _ | _ | _ | _ | _ | _ | _ | _ | ix
      · obtain ⟨b, e, h⟩ := h; exact ⟨b, e, h.below hb⟩
      · obtain ⟨b, e, h⟩ := h; exact ⟨b, e, h.below hb⟩
      · exact ChkIs.below h hb
      · obtain ⟨b, e, h⟩ := h; exact ⟨b, e, h.below hb⟩
      · obtain ⟨b, e, h⟩ := h; exact ⟨b, e, h.below hb⟩
      · exact ChkIs.below h hb
      · obtain ⟨b, e, h⟩ := h; exact ⟨b, e, h.below hb⟩
      · obtain ⟨b, e, h⟩ := h; exact ⟨b, e, h.below hb⟩
      · obtain ⟨b, e, h⟩ := h; exact ⟨b, e, h.below hb⟩
      · exact ChkIs.below h hb
      · obtain ⟨b, e, h⟩ := h; exact ⟨b, e, h.below hb⟩
      · obtain ⟨b, e, h⟩ := h; exact ⟨b, e, h.below hb⟩
      · exact ChkIs.below h hb
      · obtain ⟨b, e, h⟩ := h; exact ⟨b, e, h.below hb⟩
      · obtain ⟨b, e, h⟩ := h; exact ⟨b, e, h.below hb⟩
    · rintro ix hx f ww hS hd
      have ka := k0.kept hS
      have kb := k1.kept hS
      have a0_ := ka.cell (i := 0) rfl
      have a1_ := ka.cell (i := 1) rfl
      have a2_ := ka.cell (i := 2) rfl
      have a3_ := ka.cell (i := 3) rfl
      have b0_ := kb.cell (i := 0) rfl
      have b1_ := kb.cell (i := 1) rfl
      have b2_ := kb.cell (i := 2) rfl
      rcases ix with _ | _ | _ | _ | _ | _ | _ | _ | _ | _ | _ | _ | _ | _ | _ | _ | ix
      · refine wpOp_list rfl ?_
        simp only [tmOf, putAll, List.map_cons, List.map_nil, List.setIfInBounds_toArray, List.set_cons_zero, List.set_cons_succ]
        go_wp2
        refine ⟨.agg #[.int .i64 p.a, .int .i64 p.b, .int .i64 p.c, .int .i64 p.d], ?_⟩
        simp [upd, Below.refl]
      · have g0 : f 0 = .agg #[.int .i64 p.a, .int .i64 p.b, .int .i64 p.c, .int .i64 p.d] := hd 0 (by kernel_rfl)
        refine wpOp_list rfl ?_
        simp only [tmOf, putAll, List.map_cons, List.map_nil, List.setIfInBounds_toArray, List.set_cons_zero, List.set_cons_succ]
        go_wp2
        exact ⟨.slice (some ⟨ww.heap.size, 0, none⟩) 1 1, by simp [upd, g0], ⟨_, rfl, planes1 ww p.a p.b p.c p.d _⟩, (Below.refl _ ww).alloc (Nat.le_refl _) _⟩
      · obtain ⟨b10, g1, hR10⟩ : ∃ b, f 1 = .slice (some ⟨b, 0, none⟩) 1 1 ∧ RdV ww (some ⟨b, 0, none⟩) [p] := hd 1 (by kernel_rfl)
        refine wpOp_list rfl ?_
        simp only [tmOf, putAll, List.map_cons, List.map_nil, List.setIfInBounds_toArray, List.set_cons_zero, List.set_cons_succ]
        go_wp2_with fail
        refine (HPL.out b10 _ hR10).mono ?_
        rintro e' wf ⟨v, rfl, hv, hbf⟩
        go_wp2_with fail
        first
          | exact ⟨v, by simp [upd, g1], hv, hbf⟩
          | exact ⟨v, by simp [upd, g1], hv⟩
      · refine wpOp_list rfl ?_
        simp only [tmOf, putAll, List.map_cons, List.map_nil, List.setIfInBounds_toArray, List.set_cons_zero, List.set_cons_succ]
        go_wp2
        refine ⟨.slice a m c, ?_⟩
        simp [upd, Below.refl]
      · have g3 : f 3 = .slice a m c := hd 3 (by kernel_rfl)
        refine wpOp_list rfl ?_
        simp only [tmOf, putAll, List.map_cons, List.map_nil, List.setIfInBounds_toArray, List.set_cons_zero, List.set_cons_succ]
        go_wp2
        refine ⟨.int .i64 (m : Int), ?_⟩
        simp [upd, g3, Below.refl]
      · have g4 : f 4 = .int .i64 (m : Int) := hd 4 (by kernel_rfl)
        refine wpOp_list rfl ?_
        simp only [tmOf, putAll, List.map_cons, List.map_nil, List.setIfInBounds_toArray, List.set_cons_zero, List.set_cons_succ]
        go_wp2_with fail
        refine (HSM.out _).mono ?_
        rintro e' wf ⟨v, rfl, hv, hbf⟩
        go_wp2_with fail
        first
          | exact ⟨v, by simp [upd, g4], hv, hbf⟩
          | exact ⟨v, by simp [upd, g4], hv⟩
      · refine wpOp_list rfl ?_
        simp only [tmOf, putAll, List.map_cons, List.map_nil, List.setIfInBounds_toArray, List.set_cons_zero, List.set_cons_succ]
        go_wp2
        refine ⟨.agg #[.int .i64 p.a, .int .i64 p.b, .int .i64 p.c, .int .i64 p.d], ?_⟩
        simp [upd, Below.refl]
      · refine wpOp_list rfl ?_
        simp only [tmOf, putAll, List.map_cons, List.map_nil, List.setIfInBounds_toArray, List.set_cons_zero, List.set_cons_succ]
        go_wp2
        refine ⟨.agg #[.int .i64 y.a, .int .i64 y.b, .int .i64 y.c], ?_⟩
        simp [upd, Below.refl]
      · have g7 : f 7 = .agg #[.int .i64 y.a, .int .i64 y.b, .int .i64 y.c] := hd 7 (by kernel_rfl)
        refine wpOp_list rfl ?_
        simp only [tmOf, putAll, List.map_cons, List.map_nil, List.setIfInBounds_toArray, List.set_cons_zero, List.set_cons_succ]
        go_wp2
        exact ⟨.slice (some ⟨ww.heap.size, 0, none⟩) 1 1, by simp [upd, g7], ⟨_, rfl, vecs1 ww y _⟩, (Below.refl _ ww).alloc (Nat.le_refl _) _⟩
      · have g6 : f 6 = .agg #[.int .i64 p.a, .int .i64 p.b, .int .i64 p.c, .int .i64 p.d] := hd 6 (by kernel_rfl)
        obtain ⟨b17, g8, hR17⟩ : ∃ b, f 8 = .slice (some ⟨b, 0, none⟩) 1 1 ∧ RdD ww (some ⟨b, 0, none⟩) [y] := hd 8 (by kernel_rfl)
        refine wpOp_list rfl ?_
        simp only [tmOf, putAll, List.map_cons, List.map_nil, List.setIfInBounds_toArray, List.set_cons_zero, List.set_cons_succ]
        go_wp2_with fail
        refine (HCR.out b17 _ hR17).mono ?_
        rintro e' wf ⟨v, rfl, hv, hbf⟩
        go_wp2_with fail
        first
          | exact ⟨v, by simp [upd, g6, g8], hv, hbf⟩
          | exact ⟨v, by simp [upd, g6, g8], hv⟩
      · refine wpOp_list rfl ?_
        simp only [tmOf, putAll, List.map_cons, List.map_nil, List.setIfInBounds_toArray, List.set_cons_zero, List.set_cons_succ]
        go_wp2
        refine ⟨.agg #[.int .i64 p.a, .int .i64 p.b, .int .i64 p.c, .int .i64 p.d], ?_⟩
        simp [upd, Below.refl]
      · refine wpOp_list rfl ?_
        simp only [tmOf, putAll, List.map_cons, List.map_nil, List.setIfInBounds_toArray, List.set_cons_zero, List.set_cons_succ]
        go_wp2
        refine ⟨.slice a m c, ?_⟩
        simp [upd, Below.refl]
      · have g10 : f 10 = .agg #[.int .i64 p.a, .int .i64 p.b, .int .i64 p.c, .int .i64 p.d] := hd 10 (by kernel_rfl)
        have g11 : f 11 = .slice a m c := hd 11 (by kernel_rfl)
        refine wpOp_list rfl ?_
        simp only [tmOf, putAll, List.map_cons, List.map_nil, List.setIfInBounds_toArray, List.set_cons_zero, List.set_cons_succ]
        go_wp2_with fail
        refine (HCL.out _ (HRD.out.below hS)).mono ?_
        rintro e' wf ⟨v, rfl, hv, hbf⟩
        go_wp2_with fail
        first
          | exact ⟨v, by simp [upd, g10, g11], hv, hbf⟩
          | exact ⟨v, by simp [upd, g10, g11], hv⟩
      · have h11 : ChkIs ww (f 2) rp := hd 2 (by kernel_rfl)
        obtain ⟨gf11, caps11, g2, _⟩ := id h11
        have h14 : ChkIs ww (f 5) rs := hd 5 (by kernel_rfl)
        obtain ⟨gf14, caps14, g5, _⟩ := id h14
        have h18 : ChkIs ww (f 9) rf := hd 9 (by kernel_rfl)
        obtain ⟨gf18, caps18, g9, _⟩ := id h18
        have h21 : ChkIs ww (f 12) rl := hd 12 (by kernel_rfl)
        obtain ⟨gf21, caps21, g12, _⟩ := id h21
        refine wpOp_list rfl ?_
        simp only [tmOf, putAll, List.map_cons, List.map_nil, List.setIfInBounds_toArray, List.set_cons_zero, List.set_cons_succ]
        have hrc22 := checks4 ww _ _ _ _ rp rs rf rl 82 h11 h14 h18 h21
        rw [g2, g5, g9, g12] at hrc22
        clear h11 h14 h18 h21
        go_wp2
        exact ⟨.slice (some ⟨ww.heap.size, 0, none⟩) 4 4, by simp [upd, g2, g5, g9, g12], ⟨_, rfl, hrc22⟩, (Below.refl _ ww).alloc (Nat.le_refl _) _⟩
      · obtain ⟨b22, g13, hR22⟩ : ∃ b, f 13 = .slice (some ⟨b, 0, none⟩) 4 4 ∧ RdC ww (some ⟨b, 0, none⟩) [rp, rs, rf, rl] := hd 13 (by kernel_rfl)
        refine wpOp_list rfl ?_
        simp only [tmOf, putAll, List.map_cons, List.map_nil, List.setIfInBounds_toArray, List.set_cons_zero, List.set_cons_succ]
        have hf := first_any (some ⟨b22, 0, none⟩) 4 4 [rp, rs, rf, rl] ww rfl (by decide) hR22
        have HF := Lib.hid hf
        clear hf hR22
        go_wp2_with fail
        refine HF.out.mono ?_
        rintro e' wf ⟨rfl, hbf⟩
        go_wp2_with fail
        try refine ⟨.int .i64 (firstE [rp, rs, rf, rl]), ?_⟩
        simp [upd, g13, hbf]
      · have g14 : f 14 = .int .i64 (firstE [rp, rs, rf, rl]) := hd 14 (by kernel_rfl)
        refine wpOp_list rfl ?_
        simp only [tmOf, putAll, List.map_cons, List.map_nil, List.setIfInBounds_toArray, List.set_cons_zero, List.set_cons_succ]
        go_wp2
        refine ⟨.int .i64 (firstE [rp, rs, rf, rl]), ?_⟩
        simp [upd, g14, Below.refl]
      · simp only [List.length_cons, List.length_nil] at hx; omega
    · rintro f ww hS hd
      have G8 : f 15 = .int .i64 (firstE [rp, rs, rf, rl]) := hd 15 (by decide)
      simp only [tmOf, putAll, List.map_cons, List.map_nil, List.setIfInBounds_toArray, List.set_cons_zero, List.set_cons_succ]
      refine ‹∀ (a' : Act) (w' : World), Met _ a' w' → _› _ _ ?_
      go_meet
      case rel => exact ⟨G8, hS⟩
  case rest =>
  obtain ⟨rfl, hbx⟩ := hcut
  rw [HE.out]
  have k0 := k0.kept hbx
  have k1 := k1.kept hbx
  have HRD := Lib.hid (HRD.out.below hbx)
  have hb := hb1.trans (hbx.mono hb1.size)
  clear hbx hw1 hb1 HPL HCR HCL HSM HE
  generalize wc = wy at *
  by_cases h0 : E = 0
  · subst h0
    obtain ⟨n, hn, hs⟩ := HG.out rfl
    have HN := Lib.hid hn
    have HS := Lib.hid hs
    clear hn hs HG HBD
    go_upto_region 4 with fail
    go_cut [6, 7] from 27 to 31 (fun v6 v7 wx => v6 = .int .i64 s ∧ v7 = .int .i64 0 ∧ Below wy.heap.size wy wx)
    case first =>
      refine wp_region_pure' (fun ix => match ix with | 0 => .agg #[.int .i64 p.a, .int .i64 p.b, .int .i64 p.c, .int .i64 p.d] | 1 => .agg #[.int .i64 n.a, .int .i64 n.b, .int .i64 n.c] | 2 => .agg #[.int .i64 y.a, .int .i64 y.b, .int .i64 y.c] | 3 => .slice a m c | 4 => .int .i64 s | 5 => .int .i64 s | _ => .int .i64 0) (by kernel_rfl) (by kernel_rfl) ?_ ?_
      · rintro ix hx f ww hS hd
        have ka := k0.kept hS
        have kb := k1.kept hS
        have a0_ := ka.cell (i := 0) rfl
        have a1_ := ka.cell (i := 1) rfl
        have a2_ := ka.cell (i := 2) rfl
        have a3_ := ka.cell (i := 3) rfl
        have b0_ := kb.cell (i := 0) rfl
        have b1_ := kb.cell (i := 1) rfl
        have b2_ := kb.cell (i := 2) rfl
        rcases ix with _ | _ | _ | _ | _ | _ | _ | ix
        · refine wpOp_list rfl ?_
          simp only [tmOf, putAll, List.map_cons, List.map_nil, List.setIfInBounds_toArray, List.set_cons_zero, List.set_cons_succ]
          go_wp2
          simp [upd, Below.refl]
        · have g0 : f 0 = .agg #[.int .i64 p.a, .int .i64 p.b, .int .i64 p.c, .int .i64 p.d] := hd 0 (by kernel_rfl)
          refine wpOp_list rfl ?_
          simp only [tmOf, putAll, List.map_cons, List.map_nil, List.setIfInBounds_toArray, List.set_cons_zero, List.set_cons_succ]
          go_wp2_with fail
          refine (HN.out _).mono ?_
          rintro e' wf ⟨rfl, hbf⟩
          go_wp2_with fail
          simp [upd, g0, hbf]
        · refine wpOp_list rfl ?_
          simp only [tmOf, putAll, List.map_cons, List.map_nil, List.setIfInBounds_toArray, List.set_cons_zero, List.set_cons_succ]
          go_wp2
          simp [upd, Below.refl]
        · refine wpOp_list rfl ?_
          simp only [tmOf, putAll, List.map_cons, List.map_nil, List.setIfInBounds_toArray, List.set_cons_zero, List.set_cons_succ]
          go_wp2
          simp [upd, Below.refl]
        · have g1 : f 1 = .agg #[.int .i64 n.a, .int .i64 n.b, .int .i64 n.c] := hd 1 (by kernel_rfl)
          have g2 : f 2 = .agg #[.int .i64 y.a, .int .i64 y.b, .int .i64 y.c] := hd 2 (by kernel_rfl)
          have g3 : f 3 = .slice a m c := hd 3 (by kernel_rfl)
          refine wpOp_list rfl ?_
          simp only [tmOf, putAll, List.map_cons, List.map_nil, List.setIfInBounds_toArray, List.set_cons_zero, List.set_cons_succ]
          go_wp2_with fail
          refine (HS.out _ (HRD.out.below hS)).mono ?_
          rintro e' wf ⟨rfl, hbf⟩
          go_wp2_with fail
          simp [upd, g1, g2, g3, hbf]
        · have g4 : f 4 = .int .i64 s := hd 4 (by kernel_rfl)
          refine wpOp_list rfl ?_
          simp only [tmOf, putAll, List.map_cons, List.map_nil, List.setIfInBounds_toArray, List.set_cons_zero, List.set_cons_succ]
          go_wp2
          simp [upd, g4, Below.refl]
        · refine wpOp_list rfl ?_
          simp only [tmOf, putAll, List.map_cons, List.map_nil, List.setIfInBounds_toArray, List.set_cons_zero, List.set_cons_succ]
          go_wp2
          simp [upd, Below.refl]
        · simp only [List.length_cons, List.length_nil] at hx; omega
      · rintro f' ww hS hd
        have g6 : f' 5 = .int .i64 s := hd 5 (by decide)
        have g7 : f' 6 = .int .i64 0 := hd 6 (by decide)
        simp only [tmOf, putAll, List.map_cons, List.map_nil, List.setIfInBounds_toArray, List.set_cons_zero, List.set_cons_succ]
        refine ‹∀ (a' : Act) (w' : World), Met _ a' w' → _› _ _ ?_
        go_meet
        case rel => exact ⟨g6, g7, hS⟩
    case rest =>
    obtain ⟨rfl, rfl, hbz⟩ := hcut
    go_wp2_with fail
    go_ret2
    exact ⟨rfl, hb.trans (hbz.mono hb.size)⟩
  · have hE1 : (E == 0) = false := by simp [h0]
    have hE2 : (E != 0) = true := by simp [h0]
    have hs0 := HBD.out h0
    have HS0 := Lib.hid hs0
    clear h0 hs0 HG HBD
    go_wp2_with fail
    go_ret2
    exact ⟨by rw [HS0.out]; rfl, hb⟩

end Go.Proofs.YtimkeblcdodfmaaGreat
