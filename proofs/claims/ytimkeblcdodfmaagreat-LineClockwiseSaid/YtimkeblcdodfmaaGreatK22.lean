/-
  Package point: whether two points' coefficients are the same; The library's Compact at slices of spokeshave/api.Point: of equal neighbours the first; A number out of any text; The reference's Long; the laws' 'form'; Sums, differences and products of two strings; Lists of strings that are numbers; their sum; Rows of strings of the call's own that grow by one, or are changed at one place; Rows of rows: of strings, of the reference's numbers; how they grow; Rows of four numbers that grow: plain; Rows of spokeshave/api.Point that grow.
-/
import Derived.ChangeKeysEq
import Derived.Lib.ItoaLen
import Derived.Deep.RegionHeld3
import Derived.Test.YtimkeblcdodfmaaGreatK1
import Derived.Test.YtimkeblcdodfmaaGreatK2
import Derived.Test.YtimkeblcdodfmaaGreatK3
import Derived.Test.YtimkeblcdodfmaaGreatK4
import Derived.Test.YtimkeblcdodfmaaGreatK5
import Derived.Test.YtimkeblcdodfmaaGreatK6
import Derived.Test.YtimkeblcdodfmaaGreatK7
import Derived.Test.YtimkeblcdodfmaaGreatK8
import Derived.Test.YtimkeblcdodfmaaGreatK10
import Derived.Test.YtimkeblcdodfmaaGreatK11
import Derived.Test.YtimkeblcdodfmaaGreatK20
namespace Go.Proofs.YtimkeblcdodfmaaGreat
open Go.RowKit Go.Shelf
attribute [local go_sem] Oper.semAt_some

theorem eqPoint (p q : V4) (w : World) : (Op.equalIn 10000 41 (.agg #[.int .i64 p.a, .int .i64 p.b, .int .i64 p.c, .int .i64 p.d]) (.agg #[.int .i64 q.a, .int .i64 q.b, .int .i64 q.c, .int .i64 q.d])).run Tryz.prog w = .ok (decide (p = q)) w := by
  have u3 := Tryz.underlying2
  have a3 := Tryz.isAgg2
  have z3 := Tryz.sizeOf2
  rw [show (10000 : Nat) = 9999 + 1 from rfl, Op.equalIn]
  simp only [Sem.run_bind, run_underlying Tryz.underlying41, Result.andThen_ok]
  simp only [Std.Legacy.Range.forIn_eq_forIn_range', Std.Legacy.Range.size, Nat.sub_zero, Nat.add_sub_cancel, Nat.div_one, List.range'_succ, List.range'_zero, List.forIn_cons, List.forIn_nil]
  go_simp
  obtain ⟨a, b, c, d⟩ := p
  obtain ⟨e, f, g, h⟩ := q
  by_cases h1 : a = e <;> by_cases h2 : b = f <;> by_cases h3 : c = g <;> by_cases h4 : d = h <;> simp [h1, h2, h3, h4]

end Go.Proofs.YtimkeblcdodfmaaGreat

namespace Go.Proofs.YtimkeblcdodfmaaGreat
open Go.RowKit Go.Shelf
attribute [local go_sem] Oper.semAt_some

theorem clearQ_run {W : World} {B kk m c : Nat} {R : List V4} (hm : 0 < m) (hr : RowV W B R) (hlen : R.length = kk + m) :
    ∃ W', (∀ ty, (Builtin.clear_ #[52] ty #[.slice (some ⟨B, kk * 4, none⟩) m c]).run Tryz.prog W = .ok (.tuple #[]) W') ∧ RowV W' B (R.take kk) ∧ W.grownBy W' (some B) := by
  have hex : ∀ j, j < m * 4 → (W.cell? ⟨B, kk * 4 + j, none⟩).isSome = true ∧ W.frozen? ⟨B, kk * 4 + j, none⟩ = false := by
    intro j hj
    have hi : kk + j / 4 < R.length := by omega
    obtain ⟨⟨h0, h1, h2, h3⟩, f0, f1, f2, f3⟩ := hr.2 (kk + j / 4) _ (List.getElem?_eq_getElem hi)
    have h4 : j % 4 = 0 ∨ j % 4 = 1 ∨ j % 4 = 2 ∨ j % 4 = 3 := by omega
    rcases h4 with e | e | e | e
    · have ej : kk * 4 + j = (kk + j / 4) * 4 := by omega
      rw [ej, h0, f0]; exact ⟨rfl, rfl⟩
    · have ej : kk * 4 + j = (kk + j / 4) * 4 + 1 := by omega
      rw [ej, h1, f1]; exact ⟨rfl, rfl⟩
    · have ej : kk * 4 + j = (kk + j / 4) * 4 + 2 := by omega
      rw [ej, h2, f2]; exact ⟨rfl, rfl⟩
    · have ej : kk * 4 + j = (kk + j / 4) * 4 + 3 := by omega
      rw [ej, h3, f3]; exact ⟨rfl, rfl⟩
  obtain ⟨zs, hzs⟩ : ∃ zs, (Builtin.zeroCells (Value.agg #[.int .i64 0, .int .i64 0, .int .i64 0, .int .i64 0]).cells m).toList = zs := ⟨_, rfl⟩
  have hzl : zs.length = m * 4 := by rw [← hzs]; simp [Builtin.zeroCells, Value.cells]
  have hz1 : ∀ v ∈ zs, v.oneCell' = true := by
    intro v hv
    rw [← hzs] at hv
    unfold Builtin.zeroCells at hv
    simp only [Array.toList_map, Array.toList_range, List.mem_map, List.mem_range] at hv
    obtain ⟨i, _, rfl⟩ := hv
    simp only [Value.cells]
    have h4 : i % 4 = 0 ∨ i % 4 = 1 ∨ i % 4 = 2 ∨ i % 4 = 3 := by omega
    rcases h4 with e | e | e | e <;> simp [e, Value.oneCell']
  have hst := run_storeCells_cells (P := Tryz.prog) B (kk * 4) zs 0 W (by rw [hzl]; exact fun j hj => (hex j hj).1) (by rw [hzl]; exact fun j hj => (hex j hj).2) hz1
  simp only [Nat.add_zero] at hst
  have hzv : ∀ W, (zeroValue 41).run Tryz.prog W = .ok (.agg #[.int .i64 0, .int .i64 0, .int .i64 0, .int .i64 0]) W := Tryz.zeroValue41
  have hrun : ∀ ty, (Builtin.clear_ #[52] ty #[.slice (some ⟨B, kk * 4, none⟩) m c]).run Tryz.prog W = .ok (.tuple #[]) (W.setCells B (kk * 4) zs) := by
    intro ty
    obtain ⟨m', rfl⟩ : ∃ m', m = m' + 1 := ⟨m - 1, by omega⟩
    simp [Builtin.clear_, run_underlying Tryz.underlying52, hzv, hzs, hst]
  have hW' : RowV (W.setCells B (kk * 4) zs) B (R.take kk) := by
    refine ⟨Nat.lt_of_lt_of_le hr.1 (gB_setCells zs (kk * 4) W (gB_refl W _)).size, fun i q hi => ?_⟩
    have hik : i < kk := by
      rcases Nat.lt_or_ge i kk with h | h
      · exact h
      · rw [List.getElem?_take_eq_none h] at hi; cases hi
    rw [List.getElem?_take_of_lt hik] at hi
    obtain ⟨⟨h0, h1, h2, h3⟩, f0, f1, f2, f3⟩ := hr.2 i q hi
    have hc : ∀ o, o < kk * 4 → (W.setCells B (kk * 4) zs).cell? ⟨B, o, none⟩ = W.cell? ⟨B, o, none⟩ := fun o ho => World.cell?_setCells_out B zs (kk * 4) W ⟨B, o, none⟩ (fun _ _ => Or.inl ho)
    have hf : ∀ o, (W.setCells B (kk * 4) zs).frozen? ⟨B, o, none⟩ = W.frozen? ⟨B, o, none⟩ := fun o => World.frozen?_setCells B zs (kk * 4) W _
    exact ⟨⟨(hc _ (by omega)).trans h0, (hc _ (by omega)).trans h1, (hc _ (by omega)).trans h2, (hc _ (by omega)).trans h3⟩, (hf _).trans f0, (hf _).trans f1, (hf _).trans f2, (hf _).trans f3⟩
  exact ⟨_, hrun, hW', gB_setCells zs (kk * 4) W (gB_refl W _)⟩

set_option maxRecDepth 100000 in
set_option maxHeartbeats 8000000 in
theorem compactQ_any (B n cap : Nat) (l : List V4) (w : World) (hl : l.length = n) (hr : RowV w B l) (hn : n ≤ 1000000000) (hcap : n ≤ cap) :
    Calls Tryz.prog 95 #[.slice (some ⟨B, 0, none⟩) n cap] w fun e w' => e = .returned (.slice (some ⟨B, 0, none⟩) (keptV l n).length cap) ∧ RowV w' B (keptV l n) ∧ w.grownBy w' (some B) := by
  have HL := Lib.hid hl
  have HR0 := Lib.hid hr
  clear hl hr
  by_cases hn2 : n < 2
  · have hn2' : (n : Int) < 2 := by omega
    have hk : keptV l n = l := keptV_few HL.out hn2
    have HK := Lib.hid hk
    have HKL := Lib.hid (show (keptV l n).length = n by rw [hk]; exact HL.out)
    clear hk
    go_enter Tryz.func95, Tryz.ntmps95
    go_wp2_with fail
    go_ret
    refine ⟨by rw [HKL.out]; rfl, ?_, gB_refl _ _⟩
    rw [HK.out]; exact HR0.out
  · have hn2' : ¬ (n : Int) < 2 := by omega
    go_enter Tryz.func95, Tryz.ntmps95
    go_wp2_with fail
    go_loopg [3] (n - 1) (fun gk v3 wr => ∃ k : Nat, 1 ≤ k ∧ k ≤ n ∧ gk = n - k ∧ v3 = .int .i64 (k : Int) ∧ Hid (keptV l k = l.take k) ∧ Hid (RowV wr B l) ∧ Hid (w.grownBy wr (some B)))
    case atStart => exact ⟨1, by decide, by omega, rfl, rfl, keptV_one _, HR0.out, gB_refl _ _⟩
    case round =>
      obtain ⟨k, hk1, hkn, hgk, rfl, HKP, HRW, HGB⟩ := hrel
      have HGK := Lib.hid hgk
      clear hgk
      by_cases hlt : k < n
      · have hki : (k : Int) < (n : Int) := by omega
        obtain ⟨j, hj⟩ : ∃ j, j + 1 = k := ⟨k - 1, by omega⟩
        have HJ := Lib.hid hj
        have e1 : wrap64 ((k : Int) - 1) = (j : Int) := by unfold wrap64; omega
        have hjn : (j : Int) < (n : Int) := by omega
        have hxk : k < l.length := by rw [HL.out]; exact hlt
        have hyj : j < l.length := by rw [HL.out]; omega
        obtain ⟨x, hx⟩ : ∃ x, l[k]? = some x := ⟨_, List.getElem?_eq_getElem hxk⟩
        obtain ⟨y, hy⟩ : ∃ y, l[j]? = some y := ⟨_, List.getElem?_eq_getElem hyj⟩
        have HKX := Lib.hid hx
        have HJY := Lib.hid hy
        clear hx hy hj hxk hyj
        generalize wr = wo at *
        go_upto_region 6 with fail
        go_cut [25] from 16 to 25 (fun v25 wx => v25 = .bool (decide (x = y)) ∧ Below wo.heap.size wo wx)
        case first =>
          have heq := fun w => eqPoint x y w
          refine wp_region_pure' (fun ix => match ix with | 0 => .slice (some ⟨B, 0, none⟩) n cap | 1 => .int .i64 (k : Int) | 2 => .pointer (some ⟨B, k * 4, none⟩) | 3 => .agg #[.int .i64 x.a, .int .i64 x.b, .int .i64 x.c, .int .i64 x.d] | 4 => .slice (some ⟨B, 0, none⟩) n cap | 5 => .int .i64 (k : Int) | 6 => .int .i64 (j : Int) | 7 => .pointer (some ⟨B, j * 4, none⟩) | 8 => .agg #[.int .i64 y.a, .int .i64 y.b, .int .i64 y.c, .int .i64 y.d] | _ => .bool (decide (x = y))) (by kernel_rfl) (by kernel_rfl) ?_ ?_
          · rintro ix hx f ww hS hd
            have hR := HRW.out.of_block hS.size (hS.block B HRW.out.1)
            obtain ⟨⟨c0, c1, c2, c3⟩, _⟩ := hR.2 k x HKX.out
            obtain ⟨⟨d0, d1, d2, d3⟩, _⟩ := hR.2 j y HJY.out
            rcases ix with _ | _ | _ | _ | _ | _ | _ | _ | _ | _ | ix
            · refine wpOp_list rfl ?_
              simp only [tmOf, putAll, List.map_cons, List.map_nil, List.setIfInBounds_toArray, List.set_cons_zero, List.set_cons_succ]
              go_wp2
              simp [upd, Below.refl]
            · refine wpOp_list rfl ?_
              simp only [tmOf, putAll, List.map_cons, List.map_nil, List.setIfInBounds_toArray, List.set_cons_zero, List.set_cons_succ]
              go_wp2
              simp [upd, Below.refl]
            · have g0 : f 0 = .slice (some ⟨B, 0, none⟩) n cap := hd 0 (by kernel_rfl)
              have g1 : f 1 = .int .i64 (k : Int) := hd 1 (by kernel_rfl)
              refine wpOp_list rfl ?_
              simp only [tmOf, putAll, List.map_cons, List.map_nil, List.setIfInBounds_toArray, List.set_cons_zero, List.set_cons_succ]
              go_wp2
              simp [upd, g0, g1, Below.refl]
            · have g2 : f 2 = .pointer (some ⟨B, k * 4, none⟩) := hd 2 (by kernel_rfl)
              refine wpOp_list rfl ?_
              simp only [tmOf, putAll, List.map_cons, List.map_nil, List.setIfInBounds_toArray, List.set_cons_zero, List.set_cons_succ]
              go_wp2
              simp [upd, g2, Below.refl]
            · refine wpOp_list rfl ?_
              simp only [tmOf, putAll, List.map_cons, List.map_nil, List.setIfInBounds_toArray, List.set_cons_zero, List.set_cons_succ]
              go_wp2
              simp [upd, Below.refl]
            · refine wpOp_list rfl ?_
              simp only [tmOf, putAll, List.map_cons, List.map_nil, List.setIfInBounds_toArray, List.set_cons_zero, List.set_cons_succ]
              go_wp2
              simp [upd, Below.refl]
            · have g5 : f 5 = .int .i64 (k : Int) := hd 5 (by kernel_rfl)
              refine wpOp_list rfl ?_
              simp only [tmOf, putAll, List.map_cons, List.map_nil, List.setIfInBounds_toArray, List.set_cons_zero, List.set_cons_succ]
              go_wp2
              simp [upd, g5, Below.refl]
              have := HJ.out
              omega
            · have g4 : f 4 = .slice (some ⟨B, 0, none⟩) n cap := hd 4 (by kernel_rfl)
              have g6 : f 6 = .int .i64 (j : Int) := hd 6 (by kernel_rfl)
              refine wpOp_list rfl ?_
              simp only [tmOf, putAll, List.map_cons, List.map_nil, List.setIfInBounds_toArray, List.set_cons_zero, List.set_cons_succ]
              go_wp2
              simp [upd, g4, g6, Below.refl]
            · have g7 : f 7 = .pointer (some ⟨B, j * 4, none⟩) := hd 7 (by kernel_rfl)
              refine wpOp_list rfl ?_
              simp only [tmOf, putAll, List.map_cons, List.map_nil, List.setIfInBounds_toArray, List.set_cons_zero, List.set_cons_succ]
              go_wp2
              simp [upd, g7, Below.refl]
            · have g3 : f 3 = .agg #[.int .i64 x.a, .int .i64 x.b, .int .i64 x.c, .int .i64 x.d] := hd 3 (by kernel_rfl)
              have g8 : f 8 = .agg #[.int .i64 y.a, .int .i64 y.b, .int .i64 y.c, .int .i64 y.d] := hd 8 (by kernel_rfl)
              refine wpOp_list rfl ?_
              simp only [tmOf, putAll, List.map_cons, List.map_nil, List.setIfInBounds_toArray, List.set_cons_zero, List.set_cons_succ]
              go_wp2
              simp [upd, g3, g8, Below.refl]
            · simp only [List.length_cons, List.length_nil] at hx; omega
          · rintro f ww hS hd
            have g9 : f 9 = .bool (decide (x = y)) := hd 9 (by decide)
            simp only [tmOf, putAll, List.map_cons, List.map_nil, List.setIfInBounds_toArray, List.set_cons_zero, List.set_cons_succ]
            refine ‹∀ (a' : Act) (w' : World), Met _ a' w' → _› _ _ ?_
            go_meet
            case rel => exact ⟨g9, hS⟩
        case rest =>
        obtain ⟨rfl, hbx⟩ := hcut
        by_cases hxy : x = y
        · have HXY := Lib.hid hxy
          rw [decide_eq_true hxy]
          clear hxy
          have hRx := HRW.out.of_block hbx.size (hbx.block B HRW.out.1)
          have HRX := Lib.hid hRx
          have HGX := Lib.hid (gB_below HGB.out hbx)
          clear hRx hbx HRW HGB
          go_wp2_with fail
          obtain ⟨M, hM⟩ : ∃ M, n - k = M := ⟨_, rfl⟩
          obtain ⟨CM, hCM⟩ : ∃ M, cap - k = M := ⟨_, rfl⟩
          rw [hM, hCM]
          have HM := Lib.hid (show n = k + M by omega)
          have hMn : M ≤ 1000000000 := by omega
          have hM1 : 1 ≤ M := by omega
          clear hM hCM
          go_loopg [3, 5] (M - 1) (fun gk v3 v5 wx => ∃ (m kk : Nat) (R : List V4), 1 ≤ m ∧ m ≤ M ∧ gk = M - m ∧ v5 = .int .i64 (m : Int) ∧ v3 = .int .i64 (kk : Int) ∧ Hid (1 ≤ kk ∧ kk < k + m ∧ (keptV l (k + m)).length = kk ∧ R.length = n ∧ R.take kk = keptV l (k + m) ∧ ∀ i, k + m ≤ i + 1 → R[i]? = l[i]?) ∧ Hid (RowV wx B R) ∧ Hid (w.grownBy wx (some B)))
          case atStart =>
            refine ⟨1, k, l, by decide, hM1, rfl, rfl, rfl, ⟨hk1, by omega, ?_, HL.out, ?_, fun _ _ => rfl⟩, HRX.out, HGX.out⟩
            · obtain rfl := HJ.out
              rw [keptV_same HKX.out (by rw [HXY.out]; exact HJY.out), HKP.out, List.length_take, HL.out]; omega
            · obtain rfl := HJ.out
              rw [keptV_same HKX.out (by rw [HXY.out]; exact HJY.out), HKP.out]
          case round =>
            clear HRX HGX e1 hjn HKX HJY HXY HKP HJ hlt hki
            obtain ⟨m, kk, R, hm1, hmM, hgk2, rfl, rfl, HK, HRX, HGX⟩ := hrel
            have HGK2 := Lib.hid hgk2
            clear hgk2
            by_cases hlt2 : m < M
            · have hmi : (m : Int) < (M : Int) := by omega
              obtain ⟨p, hp⟩ : ∃ p, p + 1 = m := ⟨m - 1, by omega⟩
              have HP := Lib.hid hp
              have e1 : wrap64 ((m : Int) - 1) = (p : Int) := by unfold wrap64; omega
              have hpM : (p : Int) < (M : Int) := by omega
              have hum : k + m < R.length := by rw [HK.out.2.2.2.1, HM.out]; omega
              have hvm : k + p < R.length := by rw [HK.out.2.2.2.1, HM.out]; omega
              obtain ⟨u, hu⟩ : ∃ x, R[k + m]? = some x := ⟨_, List.getElem?_eq_getElem hum⟩
              obtain ⟨v, hv⟩ : ∃ x, R[k + p]? = some x := ⟨_, List.getElem?_eq_getElem hvm⟩
              have hul : l[k + m]? = some u := by rw [← HK.out.2.2.2.2.2 (k + m) (by omega)]; exact hu
              have hvl : l[k + p]? = some v := by rw [← HK.out.2.2.2.2.2 (k + p) (by omega)]; exact hv
              have ea : (k + m) * 4 = k * 4 + m * 4 := by omega
              have eb : (k + p) * 4 = k * 4 + p * 4 := by omega
              have HU := Lib.hid hu
              have HV := Lib.hid hv
              have HUL := Lib.hid hul
              have HVL := Lib.hid hvl
              clear hu hv hp hum hvm hul hvl
              generalize wr = wq at *
              have EA := Lib.hid ea
              have EB := Lib.hid eb
              clear ea eb
              go_upto_region 11 with fail
              go_cut [44] from 35 to 44 (fun v44 wx => v44 = .bool (!decide (u = v)) ∧ Below wq.heap.size wq wx)
              case first =>
                have heq := fun w => eqPoint u v w
                have ea := EA.out
                have eb := EB.out
                refine wp_region_pure' (fun ix => match ix with | 0 => .slice (some ⟨B, k * 4, none⟩) M CM | 1 => .int .i64 (m : Int) | 2 => .pointer (some ⟨B, k * 4 + m * 4, none⟩) | 3 => .agg #[.int .i64 u.a, .int .i64 u.b, .int .i64 u.c, .int .i64 u.d] | 4 => .slice (some ⟨B, k * 4, none⟩) M CM | 5 => .int .i64 (m : Int) | 6 => .int .i64 (p : Int) | 7 => .pointer (some ⟨B, k * 4 + p * 4, none⟩) | 8 => .agg #[.int .i64 v.a, .int .i64 v.b, .int .i64 v.c, .int .i64 v.d] | _ => .bool (!decide (u = v))) (by kernel_rfl) (by kernel_rfl) ?_ ?_
                · rintro ix hx f ww hS hd
                  have hR := HRX.out.of_block hS.size (hS.block B HRX.out.1)
                  obtain ⟨⟨c0, c1, c2, c3⟩, _⟩ := hR.2 (k + m) u HU.out
                  obtain ⟨⟨d0, d1, d2, d3⟩, _⟩ := hR.2 (k + p) v HV.out
                  rw [ea] at c0 c1 c2 c3
                  rw [eb] at d0 d1 d2 d3
                  rcases ix with _ | _ | _ | _ | _ | _ | _ | _ | _ | _ | ix
                  · refine wpOp_list rfl ?_
                    simp only [tmOf, putAll, List.map_cons, List.map_nil, List.setIfInBounds_toArray, List.set_cons_zero, List.set_cons_succ]
                    go_wp2
                    simp [upd, Below.refl]
                  · refine wpOp_list rfl ?_
                    simp only [tmOf, putAll, List.map_cons, List.map_nil, List.setIfInBounds_toArray, List.set_cons_zero, List.set_cons_succ]
                    go_wp2
                    simp [upd, Below.refl]
                  · have g0 : f 0 = .slice (some ⟨B, k * 4, none⟩) M CM := hd 0 (by kernel_rfl)
                    have g1 : f 1 = .int .i64 (m : Int) := hd 1 (by kernel_rfl)
                    refine wpOp_list rfl ?_
                    simp only [tmOf, putAll, List.map_cons, List.map_nil, List.setIfInBounds_toArray, List.set_cons_zero, List.set_cons_succ]
                    go_wp2
                    simp [upd, g0, g1, Below.refl]
                  · have g2 : f 2 = .pointer (some ⟨B, k * 4 + m * 4, none⟩) := hd 2 (by kernel_rfl)
                    refine wpOp_list rfl ?_
                    simp only [tmOf, putAll, List.map_cons, List.map_nil, List.setIfInBounds_toArray, List.set_cons_zero, List.set_cons_succ]
                    go_wp2
                    simp [upd, g2, Below.refl]
                  · refine wpOp_list rfl ?_
                    simp only [tmOf, putAll, List.map_cons, List.map_nil, List.setIfInBounds_toArray, List.set_cons_zero, List.set_cons_succ]
                    go_wp2
                    simp [upd, Below.refl]
                  · refine wpOp_list rfl ?_
                    simp only [tmOf, putAll, List.map_cons, List.map_nil, List.setIfInBounds_toArray, List.set_cons_zero, List.set_cons_succ]
                    go_wp2
                    simp [upd, Below.refl]
                  · have g5 : f 5 = .int .i64 (m : Int) := hd 5 (by kernel_rfl)
                    refine wpOp_list rfl ?_
                    simp only [tmOf, putAll, List.map_cons, List.map_nil, List.setIfInBounds_toArray, List.set_cons_zero, List.set_cons_succ]
                    go_wp2
                    simp [upd, g5, Below.refl]
                    have := HP.out
                    omega
                  · have g4 : f 4 = .slice (some ⟨B, k * 4, none⟩) M CM := hd 4 (by kernel_rfl)
                    have g6 : f 6 = .int .i64 (p : Int) := hd 6 (by kernel_rfl)
                    refine wpOp_list rfl ?_
                    simp only [tmOf, putAll, List.map_cons, List.map_nil, List.setIfInBounds_toArray, List.set_cons_zero, List.set_cons_succ]
                    go_wp2
                    simp [upd, g4, g6, Below.refl]
                  · have g7 : f 7 = .pointer (some ⟨B, k * 4 + p * 4, none⟩) := hd 7 (by kernel_rfl)
                    refine wpOp_list rfl ?_
                    simp only [tmOf, putAll, List.map_cons, List.map_nil, List.setIfInBounds_toArray, List.set_cons_zero, List.set_cons_succ]
                    go_wp2
                    simp [upd, g7, Below.refl]
                  · have g3 : f 3 = .agg #[.int .i64 u.a, .int .i64 u.b, .int .i64 u.c, .int .i64 u.d] := hd 3 (by kernel_rfl)
                    have g8 : f 8 = .agg #[.int .i64 v.a, .int .i64 v.b, .int .i64 v.c, .int .i64 v.d] := hd 8 (by kernel_rfl)
                    refine wpOp_list rfl ?_
                    simp only [tmOf, putAll, List.map_cons, List.map_nil, List.setIfInBounds_toArray, List.set_cons_zero, List.set_cons_succ]
                    go_wp2
                    simp [upd, g3, g8, Below.refl]
                  · simp only [List.length_cons, List.length_nil] at hx; omega
                · rintro f ww hS hd
                  have g9 : f 9 = .bool (!decide (u = v)) := hd 9 (by decide)
                  simp only [tmOf, putAll, List.map_cons, List.map_nil, List.setIfInBounds_toArray, List.set_cons_zero, List.set_cons_succ]
                  refine ‹∀ (a' : Act) (w' : World), Met _ a' w' → _› _ _ ?_
                  go_meet
                  case rel => exact ⟨g9, hS⟩
              case rest =>
              obtain ⟨rfl, hbx⟩ := hcut
              have hRx := HRX.out.of_block hbx.size (hbx.block B HRX.out.1)
              have HRY := Lib.hid hRx
              have HGY := Lib.hid (gB_below HGX.out hbx)
              clear hRx hbx HRX HGX
              by_cases huv : u = v
              · have HE := Lib.hid huv
                rw [decide_eq_true huv]
                clear huv
                go_wp2_with fail
                go_roundg (M - (m + 1))
                case measure => rw [HGK2.out]; omega
                case rel =>
                  obtain ⟨h1, h2, h3, h4, h5, h6⟩ := HK.out
                  obtain rfl := HP.out
                  have hsm : keptV l (k + (p + 1 + 1)) = keptV l (k + (p + 1)) := keptV_same (m := k + p) HUL.out (by rw [HE.out]; exact HVL.out)
                  exact ⟨p + 1 + 1, kk, R, by omega, by omega, rfl, by go_num, rfl, ⟨h1, by omega, by rw [hsm]; exact h3, h4, by rw [hsm]; exact h5, fun i hi => h6 i (by omega)⟩, HRY.out, HGY.out⟩
              · have HE := Lib.hid huv
                rw [decide_eq_false huv]
                clear huv
                have hkn' : kk < R.length := by have h4 := HK.out.2.2.2.1; have h2 := HK.out.2.1; have := HM.out; omega
                obtain ⟨z, hz⟩ : ∃ z, R[kk]? = some z := ⟨_, List.getElem?_eq_getElem hkn'⟩
                obtain ⟨⟨c0, c1, c2, c3⟩, _⟩ := HRY.out.2 (k + m) u HU.out
                rw [EA.out] at c0 c1 c2 c3
                obtain ⟨⟨d0, d1, d2, d3⟩, f0, f1, f2, f3⟩ := HRY.out.2 kk z hz
                have hki2 : (kk : Int) < (n : Int) := by have h4 := HK.out.2.2.2.1; omega
                obtain ⟨wz, hwz⟩ : ∃ w', ((((wc.setCell ⟨B, kk * 4, none⟩ (.int .i64 u.a)).setCell ⟨B, kk * 4 + 1, none⟩ (.int .i64 u.b)).setCell ⟨B, kk * 4 + 2, none⟩ (.int .i64 u.c)).setCell ⟨B, kk * 4 + 3, none⟩ (.int .i64 u.d)) = w' := ⟨_, rfl⟩
                have hRz : RowV wz B (R.set kk u) := by rw [← hwz]; exact HRY.out.set hkn' u
                have hGz : w.grownBy wz (some B) := by rw [← hwz]; exact gB_setCell (gB_setCell (gB_setCell (gB_setCell HGY.out _ _) _ _) _ _) _ _
                have HRZ := Lib.hid hRz
                have HGZ := Lib.hid hGz
                have HKN := Lib.hid hkn'
                clear hRz hGz hkn' hz HRY HGY
                go_wp2_with fail
                go_roundg (M - (m + 1))
                case measure => rw [HGK2.out]; omega
                case rel =>
                  obtain ⟨h1, h2, h3, h4, h5, h6⟩ := HK.out
                  obtain rfl := HP.out
                  have hsn : keptV l (k + (p + 1 + 1)) = keptV l (k + (p + 1)) ++ [u] := keptV_other (m := k + p) HUL.out HVL.out HE.out
                  refine ⟨p + 1 + 1, kk + 1, R.set kk u, by omega, by omega, rfl, by go_num, by go_num, ⟨by omega, by omega, by rw [hsn, List.length_append, h3]; rfl, by rw [List.length_set]; exact h4, ?_, fun i hi => ?_⟩, HRZ.out, HGZ.out⟩
                  · rw [hsn, ← h5, List.take_add_one, List.getElem?_set_self HKN.out, List.take_set_of_le (Nat.le_refl _)]; rfl
                  · rw [List.getElem?_set_ne (by omega)]; exact h6 i (by omega)
            · have hmi : ¬ (m : Int) < (M : Int) := by omega
              obtain rfl : m = M := by omega
              obtain ⟨h1, h2, h3, h4, h5, h6⟩ := HK.out
              have hkm : k + m = n := HM.out.symm
              rw [hkm] at h3 h5 h2
              have HKE := Lib.hid (And.intro h3 h5)
              have hkn2 : kk < n := h2
              have hki2 : (kk : Int) < (n : Int) := by omega
              have hki3 : (kk : Int) ≤ (n : Int) := by omega
              have hki4 : (kk : Int) ≤ (cap : Int) := by omega
              have hrl : R.length = kk + (n - kk) := by rw [h4]; omega
              have hmp : 0 < n - kk := by omega
              clear h1 h2 h3 h4 h5 h6 HK hkm HM hmM hm1 hM1 hmi hlt2 hMn
              obtain ⟨wv, hcl, hRv, hGv⟩ := clearQ_run (c := cap - kk) hmp HRX.out hrl
              have HRV := Lib.hid hRv
              have HGV := Lib.hid (gB_trans HGX.out hGv)
              clear hRv hGv
              go_wp2_with fail
              go_ret
              refine ⟨by rw [HKE.out.1]; rfl, ?_, HGV.out⟩
              rw [← HKE.out.2]; exact HRV.out
        · rw [decide_eq_false hxy]
          have HXY := Lib.hid hxy
          clear hxy
          go_wp2_with fail
          go_roundg (n - (k + 1))
          case measure => rw [HGK.out]; omega
          case rel =>
            refine ⟨k + 1, by omega, by omega, rfl, by go_num, ?_, HRW.out.of_block hbx.size (hbx.block B HRW.out.1), gB_below HGB.out hbx⟩
            obtain rfl := HJ.out
            show keptV l (j + 1 + 1) = _
            rw [keptV_other HKX.out HJY.out HXY.out, HKP.out, List.take_add_one (i := j + 1), HKX.out]
            rfl
      · have hki : ¬ (k : Int) < (n : Int) := by omega
        obtain rfl : k = n := by omega
        have hfull : l.take k = l := List.take_of_length_le (by rw [HL.out]; exact Nat.le_refl _)
        have hkl : keptV l k = l := by rw [HKP.out, hfull]
        have HK := Lib.hid hkl
        have HKL := Lib.hid (show (keptV l k).length = k by rw [hkl]; exact HL.out)
        clear hfull hkl
        go_wp2_with fail
        go_ret
        refine ⟨by rw [HKL.out]; rfl, ?_, HGB.out⟩
        rw [HK.out]; exact HRW.out

end Go.Proofs.YtimkeblcdodfmaaGreat

namespace Go.Proofs.YtimkeblcdodfmaaGreat
open Go.RowKit

end Go.Proofs.YtimkeblcdodfmaaGreat

namespace Go.Proofs.YtimkeblcdodfmaaGreat
open Go.RowKit

/-- What has been written: digits, no 0 in front. -/
def ClnI (most i : Nat) (o : List UInt8) : Prop := o.all isDg = true ∧ o.head? ≠ some 48 ∧ o.length ≤ most ∧ o.length ≤ i

theorem ClnI.skip {most i : Nat} {o : List UInt8} (h : ClnI most i o) : ClnI most (i + 1) o := ⟨h.1, h.2.1, h.2.2.1, by have := h.2.2.2; omega⟩

theorem ClnI.push {most i d : Nat} {o : List UInt8} (h : ClnI most i o) (hd : d < 10) (hlt : o.length < most) (hp : 0 < d ∨ 0 < o.length) : ClnI most (i + 1) (o ++ [UInt8.ofNat (48 + d)]) := by
  obtain ⟨h1, h2, h3, h4⟩ := h
  have ht : (UInt8.ofNat (48 + d)).toNat = 48 + d := by simp; omega
  refine ⟨?_, ?_, by simp; omega, by simp; omega⟩
  · rw [List.all_append, h1]; simp [isDg, ht]; omega
  · cases o with
    | nil =>
      have hp' : 0 < d := by simpa using hp
      rw [List.nil_append]
      intro e
      have h5 := congrArg UInt8.toNat (Option.some.inj (show some (UInt8.ofNat (48 + d)) = some 48 from e))
      rw [ht] at h5
      have h6 : (48 : UInt8).toNat = 48 := rfl
      omega
    | cons c t => simpa using h2

end Go.Proofs.YtimkeblcdodfmaaGreat

namespace Go.Proofs.YtimkeblcdodfmaaGreat
open Go.RowKit

/-- Lists of bytes. -/
def RdL (w : World) (a : Option Addr) (l : List (List UInt8)) : Prop := ∀ i s, l[i]? = some s → ∃ b off, a = some ⟨b, off, none⟩ ∧ b < w.heap.size ∧ w.cell? ⟨b, off + i, none⟩ = some (.string ⟨s.toArray⟩)
theorem RdL.below {w w' : World} {a : Option Addr} {l : List (List UInt8)} (h : RdL w a l) (hb : Below w.heap.size w w') : RdL w' a l := by
  intro i s hi
  obtain ⟨b, off, ha, hlt, hc⟩ := h i s hi
  exact ⟨b, off, ha, Nat.lt_of_lt_of_le hlt hb.size, (hb.cell (p := ⟨b, _, none⟩) hlt).trans hc⟩

end Go.Proofs.YtimkeblcdodfmaaGreat

namespace Go.Proofs.YtimkeblcdodfmaaGreat
open Go.RowKit

theorem Nums.two {W : World} {a b : Bool} {p q : Option Addr} {n c m d : Nat} {xs ys : List Nat} {x y : Int} {L : Nat} (hx : NumIs W a p n c xs x L) (hy : NumIs W b q m d ys y L) (t : TypeId) :
    Nums (W.alloc (.cells #[.bool a, .slice p n c, .bool b, .slice q m d] t)) (some ⟨W.heap.size, 0, none⟩) [x, y] L := by
  have hb : Below W.heap.size W (W.alloc (.cells #[.bool a, .slice p n c, .bool b, .slice q m d] t)) := (Below.refl _ _).alloc (Nat.le_refl _) _
  intro i z hz
  match i, hz with
  | 0, hz => cases hz; exact ⟨W.heap.size, 0, a, p, n, c, xs, rfl, by simp, by simp, by simp, hx.below hb⟩
  | 1, hz => cases hz; exact ⟨W.heap.size, 0, b, q, m, d, ys, rfl, by simp, by simp, by simp, hy.below hb⟩
  | i + 2, hz => simp at hz

end Go.Proofs.YtimkeblcdodfmaaGreat

namespace Go.Proofs.YtimkeblcdodfmaaGreat
open Go.RowKit

/-- A list of strings. -/
def RdS (w : World) (a : Option Addr) (l : List ByteArray) : Prop := ∀ i s, l[i]? = some s → ∃ b off, a = some ⟨b, off, none⟩ ∧ b < w.heap.size ∧ w.cell? ⟨b, off + i, none⟩ = some (.string s)

theorem RdS.below {w w' : World} {a : Option Addr} {l : List ByteArray} (h : RdS w a l) (hb : Below w.heap.size w w') : RdS w' a l := by
  intro i s hi
  obtain ⟨b, off, ha, hlt, hc⟩ := h i s hi
  exact ⟨b, off, ha, Nat.lt_of_lt_of_le hlt hb.size, (hb.cell (p := ⟨b, _, none⟩) hlt).trans hc⟩

theorem NumIs.set {w : World} {neg : Bool} {p : Option Addr} {n c : Nat} {xs : List Nat} {z : Int} {L : Nat} (h : NumIs w neg p n c xs z L) {B o : Nat} {u : Value} (hu : w.cell? ⟨B, o, none⟩ = some u) (hne : ∀ x, u ≠ .int .u64 x) (v : Value) : NumIs (w.setCell ⟨B, o, none⟩ v) neg p n c xs z L :=
  { h with rd := h.rd.setOther hu hne v }

end Go.Proofs.YtimkeblcdodfmaaGreat

namespace Go.Proofs.YtimkeblcdodfmaaGreat
open Go.RowKit

def scells (ls : List (List UInt8)) : List Value := ls.map fun s => Value.string ⟨s.toArray⟩
/-- A slice of strings that the call has made. -/
def GrS (w : World) (base : Nat) (v : Value) (ls : List (List UInt8)) : Prop := w.ownsRow base 9 1 v ls.length (scells ls)
theorem GrS.nil (w : World) (base : Nat) : GrS w base (.slice none 0 0) [] := ownsRow_nil _ _ _
theorem GrS.below {w w' : World} {base : Nat} {v : Value} {ls : List (List UInt8)} (h : GrS w base v ls) (hb : Below w.heap.size w w') : GrS w' base v ls :=
  own_below h hb

theorem GrS.rd {w : World} {base : Nat} {v : Value} {ls : List (List UInt8)} (h : GrS w base v ls) : ∃ p c, v = .slice p ls.length c ∧ ls.length ≤ c ∧ RdL w p ls := by
  rcases h.2 with ⟨rfl, hn⟩ | ⟨g, cap, cur, rfl, hb, hg, hc, _, hs, ht⟩
  · rw [hn]
    have : ls = [] := List.length_eq_zero_iff.1 hn
    subst this
    exact ⟨none, 0, rfl, Nat.le_refl _, fun i s hs => by simp at hs⟩
  · refine ⟨_, cap, rfl, hc, fun i s hs => ?_⟩
    have hi : i < ls.length := (List.getElem?_eq_some_iff.1 hs).1
    refine ⟨g, 0, rfl, (Array.getElem?_eq_some_iff.1 hg).1, ?_⟩
    have h1 : (scells ls)[i]? = some (.string ⟨s.toArray⟩) := by unfold scells; simp [hs]
    rw [← ht, Nat.mul_one, List.getElem?_take_of_lt hi] at h1
    rw [Nat.zero_add]
    simpa [World.cell?, hg] using h1

/-- x[i] = s. -/
theorem GrS.put {w : World} {base : Nat} {p : Option Addr} {n c : Nat} {ls : List (List UInt8)} (h : GrS w base (.slice p n c) ls) {i : Nat} (hi : i < ls.length) (s : List UInt8) :
    ∃ g, p = some ⟨g, 0, none⟩ ∧ base ≤ g ∧ (∃ u, w.cell? ⟨g, i, none⟩ = some u) ∧ w.frozen? ⟨g, i, none⟩ = false ∧ GrS (w.setCell ⟨g, i, none⟩ (.string ⟨s.toArray⟩)) base (.slice p n c) (ls.set i s) := by
  rcases h.2 with ⟨e, hn⟩ | ⟨g, cap, cur, e, hb, hg, hc, hz, hs, ht⟩
  · rw [hn] at hi; omega
  · cases e
    have hlt : i < cur.size := by omega
    refine ⟨g, rfl, hb, ⟨cur[i], by simp [World.cell?, hg, hlt]⟩, by simp [World.frozen?, hg], ?_⟩
    refine ⟨by rw [List.length_set]; unfold scells; simp, Or.inr ⟨g, c, cur.setIfInBounds i (.string ⟨s.toArray⟩), by rw [List.length_set], hb, ?_, by rw [List.length_set]; exact hc, by simpa using hz, by simpa using hs, ?_⟩⟩
    · rw [Lib.heap_setCell_same hg]
    · rw [List.length_set]
      rw [Array.toList_setIfInBounds, List.take_set, ht]
      unfold scells
      rw [List.map_set]

end Go.Proofs.YtimkeblcdodfmaaGreat

namespace Go.Proofs.YtimkeblcdodfmaaGreat
open Go.RowKit

/-- A slice that the call has made; R holds of every cell of its block. -/
def OwnQ (w : World) (base : Nat) (e : TypeId) (size : Nat) (v : Value) (n : Nat) (xs : List Value) (R : Value → Prop) : Prop :=
  w.ownsRow base e size v n xs ∧ ∀ g cs, v.ownBlock = some g → w.heap[g]? = some (.cells cs e (0, 0)) → ∀ u, u ∈ cs.toList → R u

theorem OwnQ.nil (w : World) (base : Nat) (e : TypeId) (size : Nat) (R : Value → Prop) : OwnQ w base e size (.slice none 0 0) 0 [] R :=
  ⟨World.ownsRow_nil _ _ _ _, fun g cs h => by simp [Value.ownBlock] at h⟩

theorem OwnQ.below {w w' : World} {base : Nat} {e : TypeId} {size : Nat} {v : Value} {n : Nat} {xs : List Value} {R : Value → Prop} (h : OwnQ w base e size v n xs R) (hb : Below w.heap.size w w') : OwnQ w' base e size v n xs R := by
  refine ⟨own_below h.1 hb, fun g cs hg hc => ?_⟩
  have hlt := (h.1.lt g hg).2
  rw [hb.block g hlt] at hc
  exact h.2 g cs hg hc

/-- A block that holds a cell of another kind is another one. -/
theorem OwnQ.apart {w : World} {base : Nat} {e : TypeId} {size : Nat} {v : Value} {n : Nat} {xs : List Value} {R : Value → Prop} (h : OwnQ w base e size v n xs R) {b o : Nat} {u : Value} (hc : w.cell? ⟨b, o, none⟩ = some u) (hu : ¬ R u) : some b ≠ v.ownBlock := by
  intro hb
  have hb' := hb.symm
  rcases h.1.2 with ⟨rfl, _⟩ | ⟨g, cap, cur, rfl, _, hg, _⟩
  · simp [Value.ownBlock] at hb
  · simp [Value.ownBlock] at hb
    subst hb
    refine hu (h.2 b cur hb' hg u ?_)
    simp only [World.cell?, hg] at hc
    exact List.mem_of_getElem? (by simpa using hc)

theorem OwnQ.keep {w w' : World} {base : Nat} {e : TypeId} {size : Nat} {v : Value} {n : Nat} {xs : List Value} {R : Value → Prop} (h : OwnQ w base e size v n xs R) (hg : w.grownBy w' v.ownBlock) {b o : Nat} {u : Value} (hc : w.cell? ⟨b, o, none⟩ = some u) (hu : ¬ R u) {o' : Nat} {u' : Value} (hc' : w.cell? ⟨b, o', none⟩ = some u') : w'.cell? ⟨b, o', none⟩ = some u' :=
  hg.cell hc' (h.apart hc hu)

theorem OwnQ.base_below {w w' : World} {base : Nat} {e : TypeId} {size : Nat} {v : Value} {n : Nat} {xs : List Value} {R : Value → Prop} (h : OwnQ w base e size v n xs R) (hg : w.grownBy w' v.ownBlock) (hb : base ≤ w.heap.size) : Below base w w' :=
  ⟨hg.os, hg.tape, hg.output, hg.size, fun k hk => hg.block k (by omega) (fun e => by have := (h.1.lt k e.symm).1; omega)⟩

/-- Integers' rows are kept by an append onto a row without integers. -/
theorem OwnQ.rd {k : IntKind} {w w' : World} {base : Nat} {e : TypeId} {size : Nat} {v : Value} {n : Nat} {xs : List Value} {R : Value → Prop} (h : OwnQ w base e size v n xs R) (hR : ∀ q x, ¬ R (.int q x)) (hg : w.grownBy w' v.ownBlock) {p : Option Addr} {m : Nat} {ns : List Nat} (hr : Rd k w p m ns) : Rd k w' p m ns := by
  refine ⟨hr.1, fun j hj => ?_⟩
  obtain ⟨b, off, hp, hlt, hc⟩ := hr.2 j hj
  exact ⟨b, off, hp, Nat.lt_of_lt_of_le hlt hg.size, h.keep hg hc (hR _ _) hc⟩
section
variable {P : Program} (w : World)
/-- append onto such a row. -/
theorem run_append_q (base : Nat) (t ty e : TypeId) (i : TypeInfo) (z : Value) (size bytes : Nat) (ht : P.underlying t = some (.slice e)) (hi : P.info? e = some i) (hz : i.zero = some z)
    (hsize : i.size = size) (hby : i.bytes = bytes) (hzs : z.cells.size = size) (R : Value → Prop) (hzR : ∀ u, u ∈ z.cells.toList → R u)
    (v : Value) (n : Nat) (xs : List Value) (hq : OwnQ w base e size v n xs R)
    (a : Addr) (m c : Nat) (news : List Value) (hl : news.length = m * size) (hnews : ∀ j u, news[j]? = some u → w.cell? (a.add j) = some u) (h1 : ∀ u ∈ news, u.oneCell' = true) (hn : ∀ u ∈ news, R u)
    (h63 : n + m ≤ maxLen) (hbytes : (n + m) * bytes ≤ 140737488355328) (hbase : base ≤ w.heap.size) :
    ∃ v' w', (Builtin.append_ #[t, t] ty #[v, .slice (some a) m c]).run P w = .ok v' w' ∧ OwnQ w' base e size v' (n + m) (xs ++ news) R ∧ w.grownBy w' v.ownBlock := by
  subst hsize hby
  have hsmall : n + m ≤ 9223372036854775807 := by simp only [maxLen] at h63; omega
  obtain ⟨hown, hR⟩ := hq
  have hlen : (xs ++ news).length = (n + m) * i.size := by rw [List.length_append, hown.1, hl, Nat.add_mul]
  have hzero : ∀ k u, u ∈ (Builtin.zeroCells z.cells k).toList → R u := by
    intro k u hu
    unfold Builtin.zeroCells at hu
    simp only [Array.toList_map, Array.toList_range, List.mem_map, List.mem_range] at hu
    obtain ⟨j, hj, rfl⟩ := hu
    have hs : 0 < z.cells.size := by
      rcases Nat.eq_zero_or_pos z.cells.size with h | h
      · rw [h] at hj; simp at hj
      · exact h
    rw [getElem!_pos z.cells _ (Nat.mod_lt j hs)]
    exact hzR _ (by simp)
  have grown : ∀ (old : Nat), (∀ u ∈ xs, R u) → ∀ (row : Option Nat),
      OwnQ (w.drew.alloc (.cells (xs.toArray ++ news.toArray ++ Builtin.zeroCells z.cells (grownCap w (n + m) old e - (n + m))) e)) base e i.size (.slice (some ⟨w.heap.size, 0, none⟩) (n + m) (grownCap w (n + m) old e)) (n + m) (xs ++ news) R ∧
      w.grownBy (w.drew.alloc (.cells (xs.toArray ++ news.toArray ++ Builtin.zeroCells z.cells (grownCap w (n + m) old e - (n + m))) e)) row := by
    intro old hxR row
    have hge := grownCap_ge w (n + m) old e
    have hcm : grownCap w (n + m) old e ≤ maxLen := grownCap_le_maxLen w (n + m) old e h63
    refine ⟨⟨⟨hlen, .inr ⟨w.heap.size, _, _, rfl, hbase, heap_alloc_new w.drew _, hge, hcm, ?_, ?_⟩⟩, ?_⟩, ⟨rfl, rfl, rfl, by simp, fun k hk _ => heap_alloc_old w.drew _ hk⟩⟩
    · simp only [Array.size_append, List.size_toArray, size_zeroCells, hzs, hown.1, hl, ← Nat.add_mul]
      congr 1
      omega
    · simp only [Array.toList_append, List.append_assoc]
      rw [← List.append_assoc, ← hlen]
      exact List.take_left
    · intro g cs hg hc u hu
      simp [Value.ownBlock] at hg
      subst hg
      have hnew := heap_alloc_new w.drew (.cells (xs.toArray ++ news.toArray ++ Builtin.zeroCells z.cells (grownCap w (n + m) old e - (n + m))) e)
      have e1 : w.drew.heap.size = w.heap.size := rfl
      rw [e1] at hnew
      rw [hnew] at hc
      cases hc
      simp only [Array.toList_append, List.mem_append] at hu
      rcases hu with (hu | hu) | hu
      · exact hxR u hu
      · exact hn u hu
      · exact hzero _ u hu
  rcases hown.2 with ⟨rfl, rfl⟩ | ⟨g, cap, cur, rfl, hbg, hg, hnc, hcm, hcs, htake⟩
  · have hx : xs = [] := List.eq_nil_of_length_eq_zero (by simpa using hown.1)
    subst hx
    by_cases hm : m = 0
    · subst hm
      have hn0 : news = [] := List.eq_nil_of_length_eq_zero (by simpa using hl)
      subst hn0
      refine ⟨.slice none 0 0, w, ?_, OwnQ.nil _ _ _ _ _, ⟨rfl, rfl, rfl, Nat.le_refl _, fun _ _ _ => rfl⟩⟩
      simp [Builtin.append_, run_underlying ht, sizeOf, typeInfo, hi, Builtin.lenOf, Builtin.firstCells, loadCells, loadCellsFrom]
    · have hr := run_append_nil (P := P) w t ty e i z ht hi hz a m c news hl hnews (by omega) (by omega) (by have hb := hbytes; simp only [Nat.zero_add] at hb; omega)
      have hgr := grown 0 (by simp) (Value.ownBlock (.slice none 0 0))
      simp only [Nat.zero_add, List.nil_append, Array.empty_append] at hgr ⊢
      exact ⟨_, _, hr, hgr.1, hgr.2⟩
  · have hcur : ∀ u, u ∈ cur.toList → R u := hR g cur rfl hg
    by_cases hroom : n + m ≤ cap
    · have hfit : n * i.size + news.length ≤ cur.size := by rw [hl, hcs, ← Nat.add_mul]; exact Nat.mul_le_mul_right _ hroom
      have hr := run_append_room (P := P) w t ty e i ht hi g n cap cur hg a m c news hl hnews h1 hroom hfit
      refine ⟨_, _, hr, ⟨⟨hlen, .inr ⟨g, cap, _, rfl, hbg, setRow_heap w g cur _ e _ hg, hroom, hcm, ?_, ?_⟩⟩, ?_⟩, ⟨rfl, rfl, rfl, by simp, fun k _ hk => setRow_other w g k _ (fun e => hk (by simp [Value.ownBlock, e]))⟩⟩
      · simp only [List.size_toArray, List.length_append, List.length_take, List.length_drop, Array.length_toList]
        omega
      · rw [htake, ← hlen]
        exact List.take_left
      · intro g' cs hg' hc u hu
        simp [Value.ownBlock] at hg'
        subst hg'
        rw [setRow_heap w g cur _ e _ hg] at hc
        cases hc
        simp only [List.mem_append] at hu
        rcases hu with (hu | hu) | hu
        · exact hcur u (List.mem_of_mem_take hu)
        · exact hn u hu
        · exact hcur u (List.mem_of_mem_drop hu)
    · have holds : ∀ j u, xs[j]? = some u → w.cell? ((⟨g, 0, none⟩ : Addr).add j) = some u := hown.cells (g := g) rfl
      have hr := run_append_grow (P := P) w t ty e i z ht hi hz ⟨g, 0, none⟩ n cap xs hown.1 holds a m c news hl hnews (by omega) (by omega) (growslice_fits (by omega) hbytes)
      have hgr := grown cap (fun u hu => hcur u (by rw [← htake] at hu; exact List.mem_of_mem_take hu)) (Value.ownBlock (.slice (some ⟨g, 0, none⟩) n cap))
      exact ⟨_, _, hr, hgr.1, hgr.2⟩

variable {w}
theorem wpList_append_q {ops : Array Oper} {rest : List Oper} {o : Oper} {a : Act} {Q : Exit → Act → World → Prop} (hgd : o.guard = none) (s x : Operand) (t : TypeId)
    (ho : o.op = .call { callee := .builtin .append, args := #[s, x], argTypes := #[t, t] })
    (base : Nat) (e : TypeId) (i : TypeInfo) (z : Value) (size bytes : Nat) (ht : P.underlying t = some (.slice e)) (hi : P.info? e = some i) (hz : i.zero = some z)
    (hsize : i.size = size) (hby : i.bytes = bytes) (hzs : z.cells.size = size) (R : Value → Prop) (hzR : ∀ u, u ∈ z.cells.toList → R u)
    (v : Value) (n : Nat) (xs : List Value) (hs : a.eval s = v) (hq : OwnQ w base e size v n xs R)
    (ad : Addr) (m c : Nat) (news : List Value) (hx : a.eval x = .slice (some ad) m c) (hl : news.length = m * size) (hnews : ∀ j u, news[j]? = some u → w.cell? (ad.add j) = some u) (h1 : ∀ u ∈ news, u.oneCell' = true) (hn : ∀ u ∈ news, R u)
    (h63 : n + m ≤ maxLen) (hbytes : (n + m) * bytes ≤ 140737488355328) (hbase : base ≤ w.heap.size)
    (h : ∀ v' w', OwnQ w' base e size v' (n + m) (xs ++ news) R → w.grownBy w' v.ownBlock → wpList P ops Q rest (a.put o.dst v') w') :
    wpList P ops Q (o :: rest) a w := by
  refine wpList_plain hgd fun K hK => ?_
  obtain ⟨v', w', hr, h2, h3⟩ := run_append_q (P := P) w base t o.type e i z size bytes ht hi hz hsize hby hzs R hzR v n xs hq ad m c news hl hnews h1 hn h63 hbytes hbase
  unfold Oper.wp execOp
  simp only [ho, resolve, invoke, builtin, Sem.run_bind, Sem.run_pure, Result.andThen_ok, List.map_toArray, List.map_cons, List.map_nil, hs, hx, hr]
  exact hK _ _ (h v' w' h2 h3)
end

end Go.Proofs.YtimkeblcdodfmaaGreat

namespace Go.Proofs.YtimkeblcdodfmaaGreat
open Go.RowKit

/-- No integer, no string. -/
def NoInt (u : Value) : Prop := (∀ q x, u ≠ .int q x) ∧ ∀ s, u ≠ .string s
/-- A slice. -/
def OnlySl (u : Value) : Prop := ∃ p n c, u = .slice p n c
theorem NoInt.i (q : IntKind) (x : Int) : ¬ NoInt (.int q x) := fun h => h.1 q x rfl
theorem OnlySl.i (q : IntKind) (x : Int) : ¬ OnlySl (.int q x) := fun ⟨_, _, _, h⟩ => by cases h
theorem OnlySl.s (s : ByteArray) : ¬ OnlySl (.string s) := fun ⟨_, _, _, h⟩ => by cases h
theorem OnlySl.b (x : Bool) : ¬ OnlySl (.bool x) := fun ⟨_, _, _, h⟩ => by cases h
theorem OnlySl.mk (p : Option Addr) (n c : Nat) : OnlySl (.slice p n c) := ⟨p, n, c, rfl⟩
theorem NoInt.bool (x : Bool) : NoInt (.bool x) := And.intro (fun _ _ h => by cases h) (fun _ h => by cases h)
theorem NoInt.slice (p : Option Addr) (n c : Nat) : NoInt (.slice p n c) := And.intro (fun _ _ h => by cases h) (fun _ h => by cases h)

/-- Rows of strings at an address. -/
def RdLL (w : World) (a : Option Addr) (rows : List (List (List UInt8))) : Prop :=
  ∀ i row, rows[i]? = some row → ∃ b off q c, a = some ⟨b, off, none⟩ ∧ b < w.heap.size ∧ w.cell? ⟨b, off + i, none⟩ = some (.slice q row.length c) ∧ RdL w q row
theorem RdLL.below {w w' : World} {a : Option Addr} {rows : List (List (List UInt8))} (h : RdLL w a rows) (hb : Below w.heap.size w w') : RdLL w' a rows := by
  intro i row hi
  obtain ⟨b, off, q, c, ha, hlt, hc, hr⟩ := h i row hi
  exact ⟨b, off, q, c, ha, Nat.lt_of_lt_of_le hlt hb.size, (hb.cell (p := ⟨b, _, none⟩) hlt).trans hc, hr.below hb⟩

/-- Numbers at an address. -/
def NumsR (w : World) (a : Option Addr) (row : List Int) (K : Nat) : Prop :=
  ∀ k z, row[k]? = some z → ∃ b off neg q n c xs, a = some ⟨b, off, none⟩ ∧ b < w.heap.size ∧ w.cell? ⟨b, off + k * 2, none⟩ = some (.bool neg) ∧ w.cell? ⟨b, off + k * 2 + 1, none⟩ = some (.slice q n c) ∧ RIs w neg q n c xs z ∧ n ≤ K
theorem NumsR.below {w w' : World} {a : Option Addr} {row : List Int} {K : Nat} (h : NumsR w a row K) (hb : Below w.heap.size w w') : NumsR w' a row K := by
  intro k z hk
  obtain ⟨b, off, neg, q, n, c, xs, ha, hlt, h0, h1, hr, hn⟩ := h k z hk
  exact ⟨b, off, neg, q, n, c, xs, ha, Nat.lt_of_lt_of_le hlt hb.size, (hb.cell (p := ⟨b, _, none⟩) hlt).trans h0, (hb.cell (p := ⟨b, _, none⟩) hlt).trans h1, hr.below hb, hn⟩
/-- Rows of numbers at an address. -/
def RdMN (w : World) (a : Option Addr) (M : List (List Int)) (K : Nat) : Prop :=
  ∀ i row, M[i]? = some row → ∃ b off q c, a = some ⟨b, off, none⟩ ∧ b < w.heap.size ∧ w.cell? ⟨b, off + i, none⟩ = some (.slice q row.length c) ∧ row.length ≤ c ∧ NumsR w q row K
theorem RdMN.below {w w' : World} {a : Option Addr} {M : List (List Int)} {K : Nat} (h : RdMN w a M K) (hb : Below w.heap.size w w') : RdMN w' a M K := by
  intro i row hi
  obtain ⟨b, off, q, c, ha, hlt, hc, hl, hr⟩ := h i row hi
  exact ⟨b, off, q, c, ha, Nat.lt_of_lt_of_le hlt hb.size, (hb.cell (p := ⟨b, _, none⟩) hlt).trans hc, hl, hr.below hb⟩

/-- What an own row of cells reads as. -/
theorem own_cells {w : World} {base : Nat} {e : TypeId} {size : Nat} {v : Value} {n : Nat} {xs : List Value} (h : w.ownsRow base e size v n xs) : ∃ p c, v = .slice p n c ∧ n ≤ c ∧ ∀ j u, xs[j]? = some u → ∃ g, p = some ⟨g, 0, none⟩ ∧ g < w.heap.size ∧ w.cell? ⟨g, j, none⟩ = some u := by
  rcases h.2 with ⟨rfl, rfl⟩ | ⟨g, cap, cur, rfl, hb, hg, hc, _, hs, ht⟩
  · refine ⟨none, 0, rfl, Nat.le_refl _, fun j u hj => ?_⟩
    have : xs = [] := List.eq_nil_of_length_eq_zero (by simpa using h.1)
    subst this; simp at hj
  · refine ⟨_, cap, rfl, hc, fun j u hj => ⟨g, rfl, (Array.getElem?_eq_some_iff.1 hg).1, ?_⟩⟩
    have hjl : j < n * size := by have := (List.getElem?_eq_some_iff.1 hj).1; rw [h.1] at this; exact this
    rw [← ht, List.getElem?_take_of_lt hjl] at hj
    simpa [World.cell?, hg] using hj

/-- A row of numbers of the call's own. -/
def GrNum (w : World) (base : Nat) (v : Value) (row : List Int) (K : Nat) : Prop :=
  ∃ cs : List Value, OwnQ w base 109 2 v row.length cs NoInt ∧ ∀ k z, row[k]? = some z → ∃ neg q n c xs, cs[k * 2]? = some (.bool neg) ∧ cs[k * 2 + 1]? = some (.slice q n c) ∧ RIs w neg q n c xs z ∧ n ≤ K
theorem GrNum.nil (w : World) (base K : Nat) : GrNum w base (.slice none 0 0) [] K := ⟨[], OwnQ.nil _ _ _ _ _, fun i z h => by simp at h⟩
theorem GrNum.below {w w' : World} {base : Nat} {v : Value} {row : List Int} {K : Nat} (h : GrNum w base v row K) (hb : Below w.heap.size w w') : GrNum w' base v row K := by
  obtain ⟨vs, h1, h2⟩ := h
  exact ⟨vs, h1.below hb, fun i z hi => by obtain ⟨neg, q, n, c, xs, e0, e1, r, hn⟩ := h2 i z hi; exact ⟨neg, q, n, c, xs, e0, e1, r.below hb, hn⟩⟩
theorem GrNum.rd {w : World} {base : Nat} {v : Value} {row : List Int} {K : Nat} (h : GrNum w base v row K) : ∃ p c, v = .slice p row.length c ∧ row.length ≤ c ∧ NumsR w p row K := by
  obtain ⟨cs, h1, h2⟩ := h
  obtain ⟨p, c, rfl, hc, hcell⟩ := own_cells h1.1
  refine ⟨p, c, rfl, hc, fun k z hk => ?_⟩
  obtain ⟨neg, q, n, c', xs, e0, e1, r, hn⟩ := h2 k z hk
  obtain ⟨g, hp, hlt, h0⟩ := hcell _ _ e0
  obtain ⟨g', hp', _, h1⟩ := hcell _ _ e1
  rw [hp] at hp'
  cases hp'
  exact ⟨g, 0, neg, q, n, c', xs, hp, hlt, by rw [Nat.zero_add]; exact h0, by rw [Nat.zero_add]; exact h1, r, hn⟩

end Go.Proofs.YtimkeblcdodfmaaGreat

namespace Go.Proofs.YtimkeblcdodfmaaGreat
open Go.RowKit Go.Shelf

theorem encV_len (q : V4) : (encV q).length = 4 := rfl
def flatV (l : List V4) : List Value := l.flatMap encV
theorem flatV_len (l : List V4) : (flatV l).length = l.length * 4 := by
  induction l with
  | nil => rfl
  | cons q r ih => unfold flatV at *; rw [List.flatMap_cons, List.length_append, ih, encV_len, List.length_cons]; omega
theorem flatV_append (a b : List V4) : flatV (a ++ b) = flatV a ++ flatV b := by unfold flatV; rw [List.flatMap_append]
theorem flatV_at {l : List V4} {i : Nat} {q : V4} (h : l[i]? = some q) {c : Nat} (hc : c < 4) : (flatV l)[i * 4 + c]? = (encV q)[c]? := by
  induction l generalizing i with
  | nil => simp at h
  | cons p r ih =>
    show (encV p ++ flatV r)[i * 4 + c]? = _
    cases i with
    | zero =>
      simp only [List.getElem?_cons_zero, Option.some.injEq] at h
      subst h
      rw [Nat.zero_mul, Nat.zero_add, List.getElem?_append_left (by rw [encV_len]; exact hc)]
    | succ i =>
      rw [List.getElem?_cons_succ] at h
      rw [List.getElem?_append_right (by rw [encV_len]; omega), encV_len, show (i + 1) * 4 + c - 4 = i * 4 + c by omega]
      exact ih h
theorem flatV_one (l : List V4) : ∀ u ∈ flatV l, u.oneCell' = true := by
  intro u hu
  obtain ⟨q, _, hq⟩ := List.mem_flatMap.1 hu
  unfold encV at hq
  simp at hq
  rcases hq with rfl | rfl | rfl | rfl <;> rfl
/-- The cells of a slice of them. -/
theorem RdV.cells {W : World} {b off : Nat} {l : List V4} (h : RdV W (some ⟨b, off, none⟩) l) : ∀ j u, (flatV l)[j]? = some u → W.cell? ⟨b, off + j, none⟩ = some u := by
  intro j u hj
  have hlt := (List.getElem?_eq_some_iff.1 hj).1
  rw [flatV_len] at hlt
  have hi : j / 4 < l.length := by omega
  obtain ⟨q, hq⟩ : ∃ q, l[j / 4]? = some q := ⟨_, List.getElem?_eq_getElem hi⟩
  obtain ⟨b', off', e, _, h0, h1, h2, h3⟩ := h (j / 4) q hq
  cases e
  clear hi hlt
  obtain ⟨m, hm⟩ : ∃ m, j / 4 = m := ⟨_, rfl⟩
  rw [hm] at h0 h1 h2 h3 hq
  have h4 : j % 4 = 0 ∨ j % 4 = 1 ∨ j % 4 = 2 ∨ j % 4 = 3 := by omega
  rcases h4 with e | e | e | e
  · have ej : j = m * 4 + 0 := by omega
    subst ej
    rw [flatV_at hq (by decide)] at hj
    cases hj
    exact h0
  · have ej : j = m * 4 + 1 := by omega
    subst ej
    rw [flatV_at hq (by decide)] at hj
    cases hj
    rw [← Nat.add_assoc]; exact h1
  · have ej : j = m * 4 + 2 := by omega
    subst ej
    rw [flatV_at hq (by decide)] at hj
    cases hj
    rw [← Nat.add_assoc]; exact h2
  · have ej : j = m * 4 + 3 := by omega
    subst ej
    rw [flatV_at hq (by decide)] at hj
    cases hj
    rw [← Nat.add_assoc]; exact h3
/-- A block whose first cells these are. -/
theorem RowV.of_cells {W : World} {B : Nat} {l : List V4} {cur : Array Value} {e : TypeId} (hb : W.heap[B]? = some (.cells cur e (0, 0))) (ht : cur.toList.take (l.length * 4) = flatV l) : RowV W B l := by
  refine ⟨(Array.getElem?_eq_some_iff.1 hb).1, fun i q hi => ?_⟩
  have hil := (List.getElem?_eq_some_iff.1 hi).1
  have hc : ∀ c, c < 4 → W.cell? ⟨B, i * 4 + c, none⟩ = (encV q)[c]? := by
    intro c hc
    have := flatV_at hi hc
    rw [← ht, List.getElem?_take_of_lt (by omega)] at this
    unfold World.cell?
    simp only [hb]
    simpa using this
  have hf : ∀ o, W.frozen? ⟨B, o, none⟩ = false := fun o => by unfold World.frozen?; simp [hb]
  exact ⟨⟨hc 0 (by decide), hc 1 (by decide), hc 2 (by decide), hc 3 (by decide)⟩, hf _, hf _, hf _, hf _⟩

end Go.Proofs.YtimkeblcdodfmaaGreat

namespace Go.Proofs.YtimkeblcdodfmaaGreat
open Go.RowKit Go.Shelf

theorem Tryz.infoVQ : (Tryz.prog.info? 41).map (fun i => (i.zero, i.size, i.bytes)) = some (some (.agg #[.int .i64 0, .int .i64 0, .int .i64 0, .int .i64 0]), 4, 32) := by kernel_rfl
/-- A row of the call's own. -/
def GrVQ (w : World) (base : Nat) (v : Value) (l : List V4) : Prop := OwnQ w base 41 4 v l.length (flatV l) (fun _ => True)
theorem GrVQ.nil (w : World) (base : Nat) : GrVQ w base (.slice none 0 0) [] := OwnQ.nil _ _ _ _ _
theorem GrVQ.below {w w' : World} {base : Nat} {v : Value} {l : List V4} (h : GrVQ w base v l) (hb : Below w.heap.size w w') : GrVQ w' base v l := OwnQ.below h hb
theorem GrVQ.row {w : World} {base : Nat} {v : Value} {l : List V4} (h : GrVQ w base v l) : (v = .slice none 0 0 ∧ l = []) ∨ ∃ g c, v = .slice (some ⟨g, 0, none⟩) l.length c ∧ base ≤ g ∧ l.length ≤ c ∧ RowV w g l := by
  rcases h.1.2 with ⟨rfl, h0⟩ | ⟨g, cap, cur, rfl, hb, hg, hc, _, _, ht⟩
  · exact .inl ⟨rfl, List.length_eq_zero_iff.1 h0⟩
  · exact .inr ⟨g, cap, rfl, hb, hc, RowV.of_cells hg ht⟩
theorem GrVQ.rd {w : World} {base : Nat} {v : Value} {l : List V4} (h : GrVQ w base v l) : ∃ p c, v = .slice p l.length c ∧ l.length ≤ c ∧ RdV w p l := by
  rcases h.row with ⟨rfl, rfl⟩ | ⟨g, c, rfl, _, hc, hr⟩
  · exact ⟨none, 0, rfl, Nat.le_refl _, fun i q hi => by simp at hi⟩
  · exact ⟨_, c, rfl, hc, hr.rdV⟩

/-- append(row, seg...), as the walk meets it. -/
theorem pushVQ_law {ops : Array Oper} {Q : Exit → Act → World → Prop} {o : Oper} {rest : List Oper} {a : Act} {W : World} (hgd : o.guard = none) (s x : Operand)
    (ho : o.op = .call { callee := .builtin .append, args := #[s, x], argTypes := #[52, 52] }) {base : Nat} {v : Value} {l seg : List V4} (hs : a.eval s = v) (h : GrVQ W base v l)
    {b off n c : Nat} (hn : seg.length = n) (hr : RdV W (some ⟨b, off, none⟩) seg) (hx : a.eval x = .slice (some ⟨b, off, none⟩) n c) (hl : l.length ≤ 1000000000) (hl2 : n ≤ 1000000000) (hbase : base ≤ W.heap.size)
    (k : ∀ v' w', GrVQ w' base v' (l ++ seg) → Below base W w' → wpList Tryz.prog ops Q rest (a.put o.dst v') w') : wpList Tryz.prog ops Q (o :: rest) a W := by
  subst hn
  obtain ⟨i0, hi, hz0, hz1, hz2⟩ := info_parts Tryz.infoVQ
  refine wpList_append_q hgd s x 52 ho base 41 i0 (.agg #[.int .i64 0, .int .i64 0, .int .i64 0, .int .i64 0]) 4 32 Tryz.underlying52 hi hz0 hz1 hz2 rfl (fun _ => True) (fun _ _ => trivial) v l.length (flatV l) hs h ⟨b, off, none⟩ seg.length c (flatV seg) hx (flatV_len seg)
    (by intro j u hj; rw [Go.WideShapes.add_plain]; exact hr.cells j u hj) (flatV_one seg) (fun _ _ => trivial) (by unfold maxLen; omega) (by omega) hbase ?_
  intro v' w' h3 hg
  refine k v' w' ?_ (h.base_below hg hbase)
  unfold GrVQ
  rw [List.length_append, flatV_append]; exact h3
end Go.Proofs.YtimkeblcdodfmaaGreat
