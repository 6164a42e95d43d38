/-
  Package sums: lists; A region that draws its order and ends in 'q, r := ..' for two variables that lie in memory; Package sums: quotients of any sign; Package sums: lowest terms, totals.
-/
import Derived.Test.YtimkeblcdodfmaaGreatK1
import Derived.Test.YtimkeblcdodfmaaGreatK2
import Derived.Test.YtimkeblcdodfmaaGreatK3
import Derived.Test.YtimkeblcdodfmaaGreatK4
namespace Go.Proofs.YtimkeblcdodfmaaGreat
open Go.RowKit Go.Shelf
attribute [local go_sem] sumV Oper.semAt_some

/-- A slice of sums. -/
def RdSum (w : World) (p : Option Addr) (xs : List Int) : Prop :=
  ∀ i x, xs[i]? = some x → ∃ b off, p = some ⟨b, off, none⟩ ∧ b < w.heap.size ∧ w.cell? ⟨b, off + i * 2, none⟩ = some (.int .u64 (hiW x)) ∧ w.cell? ⟨b, off + i * 2 + 1, none⟩ = some (.int .u64 (loW x))
theorem RdSum.below {w w' : World} {p : Option Addr} {xs : List Int} (h : RdSum w p xs) (hb : Below w.heap.size w w') : RdSum w' p xs := by
  intro i x hi
  obtain ⟨b, off, rfl, hlt, h0, h1⟩ := h i x hi
  exact ⟨b, off, rfl, Nat.lt_of_lt_of_le hlt hb.size, (hb.cell (p := ⟨b, _, none⟩) hlt).trans h0, (hb.cell (p := ⟨b, _, none⟩) hlt).trans h1⟩

/-- The greatest common divisor of a list. -/
def gcdL (d : Nat) (xs : List Int) : Nat := xs.foldl (fun d x => Nat.gcd d x.natAbs) d
theorem gcdL_one (xs : List Int) : gcdL 1 xs = 1 := by
  induction xs with
  | nil => rfl
  | cons x xs ih => show gcdL (Nat.gcd 1 x.natAbs) xs = 1; rw [Nat.gcd_one_left]; exact ih
theorem gcdL_drop {xs : List Int} {i d : Nat} (hi : i < xs.length) : gcdL d (xs.drop i) = gcdL (Nat.gcd d xs[i].natAbs) (xs.drop (i + 1)) := by
  rw [List.drop_eq_getElem_cons hi]; rfl

set_option maxHeartbeats 1000000 in
theorem int_any (x : Int) (w : World) (hx : In127 x) :
    Calls Tryz.prog 110 #[sumV x] w fun e w' => e = .returned (.tuple #[.int .i64 (if -9223372036854775808 ≤ x ∧ x < 9223372036854775808 then x else 0), .bool (decide (-9223372036854775808 ≤ x ∧ x < 9223372036854775808))]) ∧ Below w.heap.size w w' := by
  have hb0 : Below w.heap.size w (w.alloc (.cells #[.int .u64 (hiW x), .int .u64 (loW x)] 90)) := (Below.refl _ w).alloc (Nat.le_refl _) _
  obtain ⟨w1, hw1⟩ : ∃ w1, w.alloc (.cells #[.int .u64 (hiW x), .int .u64 (loW x)] 90) = w1 := ⟨_, rfl⟩
  have k0 : Blk w1 w.heap.size #[.int .u64 (hiW x), .int .u64 (loW x)] 90 := by rw [← hw1]; exact Blk.new _ _ _
  rw [hw1] at hb0
  have c0 := k0.cell (i := 0) rfl
  have c1 := k0.cell (i := 1) rfl
  obtain ⟨n, hn⟩ : ∃ n, wrap64 (loW x) = n := ⟨_, rfl⟩
  have hn1 : -9223372036854775808 ≤ n ∧ n < 9223372036854775808 := by rw [← hn]; unfold wrap64; omega
  have hO := fun W => of_any n W hn1.1 hn1.2
  have hfit : (-9223372036854775808 ≤ x ∧ x < 9223372036854775808) ↔ (hiW n = hiW x ∧ loW n = loW x) := by
    rw [← hn]; unfold In127 at hx; unfold hiW loW wrap64; omega
  have hne := fun W => neq_sum (hiW n) (loW n) (hiW x) (loW x) W
  have hnx : (hiW n = hiW x ∧ loW n = loW x) → n = x := by
    intro h
    have := hfit.2 h
    have e1 := hn
    unfold In127 at hx
    unfold wrap64 loW at e1; omega
  unfold sumV at hO ⊢
  have HX := Lib.hid hnx
  have HF := Lib.hid hfit
  have HO := Lib.hid hO
  clear hx hn1 hnx hfit hO
  generalize hiW n = nh at *
  generalize loW n = nl at *
  generalize hiW x = xh at *
  generalize loW x = xl at *
  by_cases hq : nh = xh ∧ nl = xl
  · have e1 : (!(nh == xh && nl == xl)) = false := by simp [hq.1, hq.2]
    rw [if_pos (HF.out.2 hq), decide_eq_true (HF.out.2 hq)]
    have HXX := Lib.hid (HX.out hq)
    simp only [e1] at hne
    clear HF HX e1 hq
    go_enter Tryz.func110, Tryz.ntmps110
    go_upto_region 2 with fail
    go_cut [11] from 8 to 11 (fun v11 wx => v11 = .bool false ∧ Below w.heap.size w wx)
    case first =>
      refine wp_region_pure' (fun i => match i with | 0 => .int .i64 n | 1 => .agg #[.int .u64 nh, .int .u64 nl] | 2 => .agg #[.int .u64 xh, .int .u64 xl] | _ => .bool false) (by kernel_rfl) (by kernel_rfl) ?_ ?_
      · rintro i hi f ww hS hd
        have f0 := (k0.kept hS).cell (i := 0) rfl
        have f1 := (k0.kept hS).cell (i := 1) rfl
        rcases i with _ | _ | _ | _ | i
        · refine wpOp_list rfl ?_
          simp only [tmOf, putAll, List.map_cons, List.map_nil, List.setIfInBounds_toArray, List.set_cons_zero, List.set_cons_succ]
          go_wp2
          simp [upd, Below.refl]
        · have g0 : f 0 = .int .i64 n := hd 0 (by kernel_rfl)
          refine wpOp_list rfl ?_
          simp only [tmOf, putAll, List.map_cons, List.map_nil, List.setIfInBounds_toArray, List.set_cons_zero, List.set_cons_succ]
          go_wp2_with fail
          refine (HO.out _).mono ?_
          rintro e' wf ⟨rfl, hbf⟩
          go_wp2_with fail
          simp [upd, g0, hbf]
        · refine wpOp_list rfl ?_
          simp only [tmOf, putAll, List.map_cons, List.map_nil, List.setIfInBounds_toArray, List.set_cons_zero, List.set_cons_succ]
          go_wp2
          simp [upd, Below.refl]
        · have g1 : f 1 = .agg #[.int .u64 nh, .int .u64 nl] := hd 1 (by kernel_rfl)
          have g2 : f 2 = .agg #[.int .u64 xh, .int .u64 xl] := hd 2 (by kernel_rfl)
          refine wpOp_list rfl ?_
          simp only [tmOf, putAll, List.map_cons, List.map_nil, List.setIfInBounds_toArray, List.set_cons_zero, List.set_cons_succ]
          go_wp2
          simp [upd, g1, g2, Below.refl]
        · simp only [List.length_cons, List.length_nil] at hi; omega
      · rintro f ww hS hd
        have g3 : f 3 = .bool false := hd 3 (by decide)
        simp only [tmOf, putAll, List.map_cons, List.map_nil, List.setIfInBounds_toArray, List.set_cons_zero, List.set_cons_succ]
        refine ‹∀ (a' : Act) (w' : World), Met _ a' w' → _› _ _ ?_
        go_meet
        case rel => exact ⟨g3, hb0.trans (hS.mono hb0.size)⟩
    case rest =>
    obtain ⟨rfl, hbc⟩ := hcut
    go_wp2_with fail
    go_ret2
    exact ⟨congrArg (fun z : Int => Ending.returned (.tuple #[.int .i64 z, .bool true])) (hn.trans HXX.out), hbc⟩
  · have e1 : (!(nh == xh && nl == xl)) = true := by
      cases e : (nh == xh && nl == xl)
      · rfl
      · simp at e; exact absurd e hq
    rw [if_neg (fun h => hq (HF.out.1 h)), decide_eq_false (fun h => hq (HF.out.1 h))]
    simp only [e1] at hne
    clear HF HX e1 hq
    go_enter Tryz.func110, Tryz.ntmps110
    go_upto_region 2 with fail
    go_cut [11] from 8 to 11 (fun v11 wx => v11 = .bool true ∧ Below w.heap.size w wx)
    case first =>
      refine wp_region_pure' (fun i => match i with | 0 => .int .i64 n | 1 => .agg #[.int .u64 nh, .int .u64 nl] | 2 => .agg #[.int .u64 xh, .int .u64 xl] | _ => .bool true) (by kernel_rfl) (by kernel_rfl) ?_ ?_
      · rintro i hi f ww hS hd
        have f0 := (k0.kept hS).cell (i := 0) rfl
        have f1 := (k0.kept hS).cell (i := 1) rfl
        rcases i with _ | _ | _ | _ | i
        · refine wpOp_list rfl ?_
          simp only [tmOf, putAll, List.map_cons, List.map_nil, List.setIfInBounds_toArray, List.set_cons_zero, List.set_cons_succ]
          go_wp2
          simp [upd, Below.refl]
        · have g0 : f 0 = .int .i64 n := hd 0 (by kernel_rfl)
          refine wpOp_list rfl ?_
          simp only [tmOf, putAll, List.map_cons, List.map_nil, List.setIfInBounds_toArray, List.set_cons_zero, List.set_cons_succ]
          go_wp2_with fail
          refine (HO.out _).mono ?_
          rintro e' wf ⟨rfl, hbf⟩
          go_wp2_with fail
          simp [upd, g0, hbf]
        · refine wpOp_list rfl ?_
          simp only [tmOf, putAll, List.map_cons, List.map_nil, List.setIfInBounds_toArray, List.set_cons_zero, List.set_cons_succ]
          go_wp2
          simp [upd, Below.refl]
        · have g1 : f 1 = .agg #[.int .u64 nh, .int .u64 nl] := hd 1 (by kernel_rfl)
          have g2 : f 2 = .agg #[.int .u64 xh, .int .u64 xl] := hd 2 (by kernel_rfl)
          refine wpOp_list rfl ?_
          simp only [tmOf, putAll, List.map_cons, List.map_nil, List.setIfInBounds_toArray, List.set_cons_zero, List.set_cons_succ]
          go_wp2
          simp [upd, g1, g2, Below.refl]
        · simp only [List.length_cons, List.length_nil] at hi; omega
      · rintro f ww hS hd
        have g3 : f 3 = .bool true := hd 3 (by decide)
        simp only [tmOf, putAll, List.map_cons, List.map_nil, List.setIfInBounds_toArray, List.set_cons_zero, List.set_cons_succ]
        refine ‹∀ (a' : Act) (w' : World), Met _ a' w' → _› _ _ ?_
        go_meet
        case rel => exact ⟨g3, hb0.trans (hS.mono hb0.size)⟩
    case rest =>
    obtain ⟨rfl, hbc⟩ := hcut
    go_wp2_with fail
    go_ret2
    exact ⟨rfl, hbc⟩

set_option maxRecDepth 100000 in
set_option maxHeartbeats 4000000 in
theorem divisorL_any (p : Option Addr) (n c : Nat) (xs : List Int) (w : World) (hl : xs.length = n) (hn : n ≤ 1000) (hr : RdSum w p xs) (hx : ∀ x ∈ xs, In127 x ∧ x.natAbs < 170141183460469231731687303715884105728) :
    Calls Tryz.prog 108 #[.slice p n c] w fun e w' => e = .returned (sumV ((gcdL 0 xs : Nat) : Int)) ∧ Below w.heap.size w w' := by
  obtain ⟨w1, hw1⟩ : ∃ w1, ((w.alloc (.cells #[.int .u64 0, .int .u64 0] 90)).alloc (.cells #[.int .u64 0, .int .u64 0] 90)) = w1 := ⟨_, rfl⟩
  have hb1 : Below w.heap.size w w1 := by rw [← hw1]; exact bw2 w _ _
  have k0 : Blk w1 w.heap.size #[.int .u64 0, .int .u64 0] 90 := by rw [← hw1]; exact (Blk.new w _ _).alloc _
  have k1 : Blk w1 (w.heap.size + 1) #[.int .u64 0, .int .u64 0] 90 := by rw [← hw1]; exact Blk.new' _ _ _ (by simp)
  have HR := Lib.hid hr
  have HL := Lib.hid hl
  have HX := Lib.hid hx
  obtain ⟨G, hG⟩ : ∃ G, gcdL 0 xs = G := ⟨_, rfl⟩
  have HG := Lib.hid hG
  have h1c : ∀ W, Calls Tryz.prog 80 #[.int .i64 1] W fun e w' => e = .returned (.agg #[.int .u64 0, .int .u64 1]) ∧ Below W.heap.size W w' := fun W => of_any 1 W (by decide) (by decide)
  have H1 := Lib.hid h1c
  rw [hG]
  clear hr hl hx hG h1c
  go_enter Tryz.func108, Tryz.ntmps108
  go_upto_block 0 with fail
  go_cut [] from 8 to 19 (fun wx => Blk wx w.heap.size #[.int .u64 0, .int .u64 0] 90 ∧ Blk wx (w.heap.size + 1) #[.int .u64 (hiW (G : Int)), .int .u64 (loW (G : Int))] 90 ∧ Below w.heap.size w wx)
  case first =>
    go_wp2_with fail
    go_loopg [8] n (fun gk v8 wr => ∃ i d : Nat, i ≤ n ∧ gk = n - i ∧ v8 = .int .i64 (i : Int) ∧ Hid (gcdL d (xs.drop i) = G ∧ d < 170141183460469231731687303715884105728) ∧ Blk wr w.heap.size #[.int .u64 0, .int .u64 0] 90 ∧ Blk wr (w.heap.size + 1) #[.int .u64 (hiW (d : Int)), .int .u64 (loW (d : Int))] 90 ∧ Below w.heap.size w wr)
    case atStart => exact ⟨0, 0, Nat.zero_le _, rfl, rfl, ⟨by rw [List.drop_zero]; exact HG.out, by decide⟩, k0, k1, hb1⟩
    case round =>
      clear k0 k1 hb1 hw1
      obtain ⟨i, d, hi, hgk, rfl, HD, k0, k1, hb⟩ := hrel
      have HGK := Lib.hid hgk
      clear hgk
      by_cases hlt : i < n
      · have hil : i < xs.length := by rw [HL.out]; exact hlt
        have hlti : (i : Int) < (n : Int) := by omega
        obtain ⟨b, off, rfl, hbl, hc0, hc1⟩ := HR.out i _ (List.getElem?_eq_getElem hil)
        have hx := HX.out _ (List.getElem_mem hil)
        have hgd := HD.out.1
        rw [gcdL_drop hil] at hgd
        have f0 := (hb.cell (p := ⟨b, off + i * 2, none⟩) hbl).trans hc0
        have f1 := (hb.cell (p := ⟨b, off + i * 2 + 1, none⟩) hbl).trans hc1
        generalize xs[i] = x at *
        have hd7 := HD.out.2
        have hz := fun W => size_any x W hx.1
        have he := fun W => divisor_any d x.natAbs hd7 hx.2 W
        obtain ⟨m, hm⟩ : ∃ m, m = Nat.gcd d x.natAbs := ⟨_, rfl⟩
        rw [← hm] at hgd he
        have hm7 : m < 170141183460469231731687303715884105728 := by
          rw [hm]
          rcases Nat.eq_zero_or_pos d with h0 | h0
          · rw [h0, Nat.gcd_zero_left]; exact hx.2
          · exact Nat.lt_of_le_of_lt (Nat.gcd_le_left _ h0) hd7
        have HM := Lib.hid (And.intro hgd hm7)
        have heq := fun W => eql_sum (hiW (m : Int)) (loW (m : Int)) 0 1 W
        have hm1 : (hiW (m : Int) == 0 && loW (m : Int) == 1) = decide (m = 1) := by
          by_cases h : m = 1
          · rw [h]; decide
          · rw [decide_eq_false h]
            cases e : (hiW (m : Int) == 0 && loW (m : Int) == 1)
            · rfl
            · simp at e; have := (eq_words (x := (m : Int)) (y := 1) ⟨by omega, by omega⟩ (by unfold In127; decide)).1 e; omega
        rw [hm1] at heq
        unfold sumV at hz he
        have hxx := hc0
        clear hx hgd hm hm7 hm1 hc0 hc1 hd7 HD hxx
        generalize hiW (d : Int) = dh at *
        generalize loW (d : Int) = dl at *
        generalize hiW x = xh at *
        generalize loW x = xl at *
        generalize hiW (x.natAbs : Int) = zh at *
        generalize loW (x.natAbs : Int) = zl at *
        generalize heh : hiW (m : Int) = eh at *
        generalize hel : loW (m : Int) = el at *
        have HV := Lib.hid (And.intro heh hel)
        have HZ := Lib.hid hz
        have HE := Lib.hid he
        clear hz he heh hel
        obtain ⟨w2, hw2⟩ : ∃ w2, wr.alloc (.cells #[.int .u64 xh, .int .u64 xl] 90) = w2 := ⟨_, rfl⟩
        have ks : Blk w2 wr.heap.size #[.int .u64 xh, .int .u64 xl] 90 := by rw [← hw2]; exact Blk.new _ _ _
        have hnl := k1.lt
        have hb2 : Below wr.heap.size wr w2 := by rw [← hw2]; exact (Below.refl _ wr).alloc (Nat.le_refl _) _
        have k0 := k0.kept hb2
        have k1 := k1.kept hb2
        have hb2' := hb.trans (hb2.mono hb.size)
        go_upto_region 5 with fail
        go_cut [] from 12 to 15 (fun wx => Blk wx w.heap.size #[.int .u64 0, .int .u64 0] 90 ∧ Blk wx (w.heap.size + 1) #[.int .u64 eh, .int .u64 el] 90 ∧ Below w.heap.size w wx)
        case first =>
          refine wp_region_pure 4 (fun i => match i with | 0 => .agg #[.int .u64 dh, .int .u64 dl] | 1 => .agg #[.int .u64 xh, .int .u64 xl] | 2 => .agg #[.int .u64 zh, .int .u64 zl] | _ => .agg #[.int .u64 eh, .int .u64 el]) (by kernel_rfl) (by kernel_rfl) (by kernel_rfl) ?_ ?_ ?_
          · decide
          · rintro i hi f ww hS hd
            have f0 := (k1.kept hS).cell (i := 0) rfl
            have f1 := (k1.kept hS).cell (i := 1) rfl
            have f2 := (ks.kept hS).cell (i := 0) rfl
            have f3 := (ks.kept hS).cell (i := 1) rfl
            rcases i with _ | _ | _ | _ | i
            · refine wpOp_list rfl ?_
              simp only [tmOf, putAll, List.map_cons, List.map_nil, List.setIfInBounds_toArray, List.set_cons_zero, List.set_cons_succ]
              go_wp2
              simp [upd, Below.refl]
            · refine wpOp_list rfl ?_
              simp only [tmOf, putAll, List.map_cons, List.map_nil, List.setIfInBounds_toArray, List.set_cons_zero, List.set_cons_succ]
              go_wp2
              simp [upd, Below.refl]
            · have g1 : f 1 = .agg #[.int .u64 xh, .int .u64 xl] := hd 1 (by kernel_rfl)
              refine wpOp_list rfl ?_
              simp only [tmOf, putAll, List.map_cons, List.map_nil, List.setIfInBounds_toArray, List.set_cons_zero, List.set_cons_succ]
              go_wp2_with fail
              refine (HZ.out _).mono ?_
              rintro e' wf ⟨rfl, hbf⟩
              go_wp2_with fail
              simp [upd, g1, hbf]
            · have g0 : f 0 = .agg #[.int .u64 dh, .int .u64 dl] := hd 0 (by kernel_rfl)
              have g2 : f 2 = .agg #[.int .u64 zh, .int .u64 zl] := hd 2 (by kernel_rfl)
              refine wpOp_list rfl ?_
              simp only [tmOf, putAll, List.map_cons, List.map_nil, List.setIfInBounds_toArray, List.set_cons_zero, List.set_cons_succ]
              go_wp2_with fail
              refine (HE.out _).mono ?_
              rintro e' wf ⟨rfl, hbf⟩
              go_wp2_with fail
              simp [upd, g0, g2, hbf]
            · omega
          · rintro f ww hS hd
            have K0 := k0.kept hS
            have K1 := k1.kept hS
            have e0 := K1.cell (i := 0) rfl
            have e1 := K1.cell (i := 1) rfl
            have e2 := K1.frozen 0
            have e3 := K1.frozen 1
            have g3 : f 3 = .agg #[.int .u64 eh, .int .u64 el] := hd 3 (by decide)
            simp only [seqW, tmOf, putAll, List.map_cons, List.map_nil, List.setIfInBounds_toArray, List.set_cons_zero, List.set_cons_succ, List.length_cons, List.length_nil]
            refine wpOp_list rfl ?_
            go_wp2
            have L0 := (K0.other (C := w.heap.size + 1) 0 (.int .u64 eh) (by omega)).other (C := w.heap.size + 1) 1 (.int .u64 el) (by omega)
            have L1 := (K1.set_eq 0 (.int .u64 eh) rfl).set_eq 1 (.int .u64 el) rfl
            have hbX := ((hb2'.trans (hS.mono hb2'.size)).setCell (p := ⟨w.heap.size + 1, 0, none⟩) (by simp only; omega) (.int .u64 eh)).setCell (p := ⟨w.heap.size + 1, 1, none⟩) (by simp only; omega) (.int .u64 el)
            go_meet
            case rel => exact ⟨L0, L1, hbX⟩
        case rest =>
        clear ks k0 k1 hb2 hb2' hb hw2 f0 f1 hnl hbl
        obtain ⟨k0, k1, hb⟩ := hcut
        go_upto_region 6 with fail
        go_cut [18] from 16 to 18 (fun v18 wx => v18 = .bool (decide (m = 1)) ∧ Blk wx w.heap.size #[.int .u64 0, .int .u64 0] 90 ∧ Blk wx (w.heap.size + 1) #[.int .u64 eh, .int .u64 el] 90 ∧ Below w.heap.size w wx)
        case first =>
          refine wp_region_pure' (fun i => match i with | 0 => .agg #[.int .u64 eh, .int .u64 el] | 1 => .agg #[.int .u64 0, .int .u64 1] | _ => .bool (decide (m = 1))) (by kernel_rfl) (by kernel_rfl) ?_ ?_
          · rintro i hi f ww hS hd
            have f0 := (k1.kept hS).cell (i := 0) rfl
            have f1 := (k1.kept hS).cell (i := 1) rfl
            rcases i with _ | _ | _ | i
            · refine wpOp_list rfl ?_
              simp only [tmOf, putAll, List.map_cons, List.map_nil, List.setIfInBounds_toArray, List.set_cons_zero, List.set_cons_succ]
              go_wp2
              simp [upd, Below.refl]
            · refine wpOp_list rfl ?_
              simp only [tmOf, putAll, List.map_cons, List.map_nil, List.setIfInBounds_toArray, List.set_cons_zero, List.set_cons_succ]
              go_wp2_with fail
              refine (H1.out _).mono ?_
              rintro e' wf ⟨rfl, hbf⟩
              go_wp2_with fail
              simp [upd, hbf]
            · have g0 : f 0 = .agg #[.int .u64 eh, .int .u64 el] := hd 0 (by kernel_rfl)
              have g1 : f 1 = .agg #[.int .u64 0, .int .u64 1] := hd 1 (by kernel_rfl)
              refine wpOp_list rfl ?_
              simp only [tmOf, putAll, List.map_cons, List.map_nil, List.setIfInBounds_toArray, List.set_cons_zero, List.set_cons_succ]
              go_wp2
              simp [upd, g0, g1, Below.refl]
            · simp only [List.length_cons, List.length_nil] at hi; omega
          · rintro f ww hS hd
            have g2 : f 2 = .bool (decide (m = 1)) := hd 2 (by decide)
            simp only [tmOf, putAll, List.map_cons, List.map_nil, List.setIfInBounds_toArray, List.set_cons_zero, List.set_cons_succ]
            refine ‹∀ (a' : Act) (w' : World), Met _ a' w' → _› _ _ ?_
            go_meet
            case rel => exact ⟨g2, k0.kept hS, k1.kept hS, hb.trans (hS.mono hb.size)⟩
        case rest =>
        clear k0 k1 hb
        obtain ⟨rfl, k0, k1, hb⟩ := hcut
        by_cases hm1 : m = 1
        · have hG1 : G = 1 := by have := HM.out.1; rw [hm1, gcdL_one] at this; exact this.symm
          have HG1 := Lib.hid (hm1.trans hG1.symm)
          rw [decide_eq_true hm1]
          clear hm1 hG1
          go_wp2_with fail
          go_meet
          case rel => exact ⟨k0, by rw [← HG1.out, show hiW (m : Int) = eh from HV.out.1, show loW (m : Int) = el from HV.out.2]; exact k1, hb⟩
        · rw [decide_eq_false hm1]
          clear hm1
          go_wp2_with fail
          go_roundg (n - (i + 1))
          case measure => rw [HGK.out]; omega
          case rel => exact ⟨i + 1, m, by omega, rfl, by go_num, HM.out, k0, by rw [show hiW (m : Int) = eh from HV.out.1, show loW (m : Int) = el from HV.out.2]; exact k1, hb⟩
      · have hlti : ¬ (i : Int) < (n : Int) := by omega
        have hG1 : d = G := by
          have := HD.out.1
          rw [List.drop_eq_nil_of_le (by rw [HL.out]; omega)] at this
          exact this
        have HG1 := Lib.hid hG1
        clear hG1
        go_wp2_with fail
        go_meet
        case rel => exact ⟨k0, by rw [← HG1.out]; exact k1, hb⟩
  case rest =>
  obtain ⟨k0, k1, hb⟩ := hcut
  have c0 := k1.cell (i := 0) rfl
  have c1 := k1.cell (i := 1) rfl
  have c2 := k0.cell (i := 0) rfl
  have c3 := k0.cell (i := 1) rfl
  have q0 := k0.frozen 0
  have q1 := k0.frozen 1
  go_wp2_with fail
  have L := (k0.set_eq 0 (.int .u64 (hiW (G : Int))) rfl).set_eq 1 (.int .u64 (loW (G : Int))) rfl
  have z0 := L.cell (i := 0) rfl
  have z1 := L.cell (i := 1) rfl
  exact bodyPost_ret (v := .agg #[.int .u64 (hiW (G : Int)), .int .u64 (loW (G : Int))]) (by simp [results, Tryz.results108, go_sem, z0, z1]) rfl ⟨rfl, (hb.setCell (by simp only; omega) _).setCell (by simp only; omega) _⟩

end Go.Proofs.YtimkeblcdodfmaaGreat

namespace Go.Proofs.YtimkeblcdodfmaaGreat
open Go.RowKit
variable {P : Program} {Q : Exit → Act → World → Prop}

theorem wp_region_def2 {id : Nat} {l : List Oper} {a : Act} {w : World} (n : Nat) (vs : Nat → Value) (Z Q0 Q1 : Array Value) (T : TypeId) (hm : P.follows .mixedOrders = true) (hE : earlierB l = true) (hlen : l.length = n + 4)
    (d1 : depB l (n + 2) n = true) (d2 : depB l (n + 3) (n + 1) = true)
    (step : ∀ i, i < n → ∀ f w', Below w.heap.size w w' → (∀ j, j < n → depB l i j = true → f j = vs j) → wpOp P l.toArray Q i (fun a' w'' => a' = tmOf a l (upd f i (vs i)) ∧ Below w'.heap.size w' w'') (tmOf a l f) w')
    (al : ∀ i, (i = n ∨ i = n + 1) → ∀ f w', wpOp P l.toArray Q i (fun a' w'' => a' = tmOf a l (upd f i (.pointer (some ⟨w'.heap.size, 0, none⟩))) ∧ w'' = w'.alloc (.cells Z T)) (tmOf a l f) w')
    (st0 : ∀ f w' b, (∀ j, j < n → depB l (n + 2) j = true → f j = vs j) → f n = .pointer (some ⟨b, 0, none⟩) → Blk w' b Z T → wpOp P l.toArray Q (n + 2) (fun a' w'' => a' = tmOf a l f ∧ ∃ v0 v1, w'' = (w'.setCell ⟨b, 0, none⟩ v0).setCell ⟨b, 1, none⟩ v1 ∧ (Z.setIfInBounds 0 v0).setIfInBounds 1 v1 = Q0) (tmOf a l f) w')
    (st1 : ∀ f w' b, (∀ j, j < n → depB l (n + 3) j = true → f j = vs j) → f (n + 1) = .pointer (some ⟨b, 0, none⟩) → Blk w' b Z T → wpOp P l.toArray Q (n + 3) (fun a' w'' => a' = tmOf a l f ∧ ∃ v0 v1, w'' = (w'.setCell ⟨b, 0, none⟩ v0).setCell ⟨b, 1, none⟩ v1 ∧ (Z.setIfInBounds 0 v0).setIfInBounds 1 v1 = Q1) (tmOf a l f) w')
    (done : ∀ f w' b0 b1, Below w.heap.size w w' → b0 ≠ b1 → w.heap.size ≤ b0 → w.heap.size ≤ b1 → f n = .pointer (some ⟨b0, 0, none⟩) → f (n + 1) = .pointer (some ⟨b1, 0, none⟩) → Blk w' b0 Q0 T → Blk w' b1 Q1 T → (∀ i, i < n → f i = vs i) → Q .normal (tmOf a l f) w') : (Code.region id l.toArray true).wp P Q a w := by
  have h : (Code.region id l.toArray true).wp P Q (tmOf a l (slotsOf a.tmps (l.map (·.dst)) 0)) w := by
    refine wp_region_inv hm hE (fun L a' w' => ∃ f, a' = tmOf a l f ∧ Below w.heap.size w w' ∧ (∀ i, i < n → L i = true → f i = vs i) ∧
      (L n = true → ∃ b, f n = .pointer (some ⟨b, 0, none⟩) ∧ w.heap.size ≤ b ∧ Blk w' b (if L (n + 2) = true then Q0 else Z) T ∧ (L (n + 1) = true → f (n + 1) ≠ .pointer (some ⟨b, 0, none⟩))) ∧
      (L (n + 1) = true → ∃ b, f (n + 1) = .pointer (some ⟨b, 0, none⟩) ∧ w.heap.size ≤ b ∧ Blk w' b (if L (n + 3) = true then Q1 else Z) T) ∧ (L (n + 2) = true → L n = true) ∧ (L (n + 3) = true → L (n + 1) = true))
      ⟨_, rfl, (Below.refl _ _).drew, fun _ _ h => (by cases h), fun h => (by cases h), fun h => (by cases h), fun h => (by cases h), fun h => (by cases h)⟩ ?_ ?_
    · rintro L i a' w' ⟨f, rfl, hs, hr, h0, h1, c0, c1⟩ hi hL hd
      have hdep : ∀ k j, k = i → j < n → depB l k j = true → f j = vs j := fun k j hk hj hdj => hr j hj (depsB_dep hd (hk ▸ hdj))
      rw [hlen] at hi
      rcases Nat.lt_or_ge i n with hin | hin
      · refine wpOp_mono (fun a' w'' h => ?_) (step i hin f w' hs (fun j => hdep i j rfl))
        obtain ⟨rfl, hb⟩ := h
        have e0 : (n == i) = false := by simp; omega
        have e1 : (n + 1 == i) = false := by simp; omega
        have e2 : (n + 2 == i) = false := by simp; omega
        have e3 : (n + 3 == i) = false := by simp; omega
        refine ⟨_, rfl, hs.trans (hb.mono hs.size), fun j hj hj2 => ?_, ?_, ?_, ?_, ?_⟩
        · by_cases e : j = i
          · subst e; simp only [upd, if_true]
          · simp only [upd, if_neg e]; exact hr j hj (by simpa [e] using hj2)
        · simp only [e0, e1, e2, Bool.or_false, upd, if_neg (show ¬ n = i by omega), if_neg (show ¬ n + 1 = i by omega)]
          intro hx
          obtain ⟨b, hf, hb0, hB, hne⟩ := h0 hx
          exact ⟨b, hf, hb0, hB.kept hb, hne⟩
        · simp only [e1, e3, Bool.or_false, upd, if_neg (show ¬ n + 1 = i by omega)]
          intro hx
          obtain ⟨b, hf, hb0, hB⟩ := h1 hx
          exact ⟨b, hf, hb0, hB.kept hb⟩
        · simp only [e0, e2, Bool.or_false]; exact c0
        · simp only [e1, e3, Bool.or_false]; exact c1
      · have hi4 : i = n ∨ i = n + 1 ∨ i = n + 2 ∨ i = n + 3 := by omega
        rcases hi4 with e | e | e | e
        · subst e
          refine wpOp_mono (fun a' w'' h => ?_) (al i (Or.inl rfl) f w')
          obtain ⟨rfl, rfl⟩ := h
          have l2 : L (i + 2) = false := by
            cases e : L (i + 2)
            · rfl
            · rw [c0 e] at hL; cases hL
          refine ⟨_, rfl, hs.alloc hs.size _, fun j hj hj2 => ?_, ?_, ?_, ?_, ?_⟩
          · simp only [upd, if_neg (show ¬ j = i by omega)]
            exact hr j hj (by have : (j == i) = false := by simp; omega
                              simpa [this] using hj2)
          · intro _
            refine ⟨w'.heap.size, by simp [upd], hs.size, ?_, ?_⟩
            · simp only [l2, show (i + 2 == i) = false by simp, Bool.or_false, Bool.false_eq_true, if_false]
              exact Blk.new _ _ _
            · simp only [show (i + 1 == i) = false by simp, Bool.or_false, upd, if_neg (show ¬ i + 1 = i by omega)]
              intro hx hy
              obtain ⟨b, hf, _, hB⟩ := h1 hx
              rw [hf] at hy
              have := hB.lt
              injection hy with hy; injection hy with hy; injection hy with hy
              omega
          · simp only [show (i + 1 == i) = false by simp, show (i + 3 == i) = false by simp, Bool.or_false, upd, if_neg (show ¬ i + 1 = i by omega)]
            intro hx
            obtain ⟨b, hf, hb0, hB⟩ := h1 hx
            exact ⟨b, hf, hb0, hB.alloc _⟩
          · intro _; simp
          · simp only [show (i + 1 == i) = false by simp, show (i + 3 == i) = false by simp, Bool.or_false]; exact c1
        · subst e
          refine wpOp_mono (fun a' w'' h => ?_) (al (n + 1) (Or.inr rfl) f w')
          obtain ⟨rfl, rfl⟩ := h
          have l2 : L (n + 3) = false := by
            cases e : L (n + 3)
            · rfl
            · rw [c1 e] at hL; cases hL
          refine ⟨_, rfl, hs.alloc hs.size _, fun j hj hj2 => ?_, ?_, ?_, ?_, ?_⟩
          · simp only [upd, if_neg (show ¬ j = n + 1 by omega)]
            exact hr j hj (by have : (j == n + 1) = false := by simp; omega
                              simpa [this] using hj2)
          · simp only [show (n == n + 1) = false by simp, show (n + 2 == n + 1) = false by simp, Bool.or_false, upd, if_neg (show ¬ n = n + 1 by omega)]
            intro hx
            obtain ⟨b, hf, hb0, hB, hne⟩ := h0 hx
            refine ⟨b, hf, hb0, hB.alloc _, fun _ hy => ?_⟩
            simp only [if_true] at hy
            have := hB.lt
            injection hy with hy; injection hy with hy; injection hy with hy
            omega
          · intro _
            refine ⟨w'.heap.size, by simp [upd], hs.size, ?_⟩
            simp only [l2, show (n + 3 == n + 1) = false by simp, Bool.or_false, Bool.false_eq_true, if_false]
            exact Blk.new _ _ _
          · simp only [show (n == n + 1) = false by simp, show (n + 2 == n + 1) = false by simp, Bool.or_false]; exact c0
          · intro _; simp
        · subst e
          have ln : L n = true := depsB_dep hd d1
          obtain ⟨b, hf, hb0, hB, hne⟩ := h0 ln
          rw [hL] at hB
          simp only [Bool.false_eq_true, if_false] at hB
          refine wpOp_mono (fun a' w'' h => ?_) (st0 f w' b (fun j => hdep (n + 2) j rfl) hf hB)
          obtain ⟨rfl, v0, v1, rfl, hq⟩ := h
          refine ⟨f, rfl, (hs.setCell hb0 _).setCell hb0 _, fun j hj hj2 => ?_, ?_, ?_, ?_, ?_⟩
          · exact hr j hj (by have : (j == n + 2) = false := by simp; omega
                              simpa [this] using hj2)
          · intro _
            refine ⟨b, hf, hb0, ?_, ?_⟩
            · simp only [BEq.rfl, Bool.or_true, if_true]
              rw [← hq]; exact (hB.set 0 v0).set 1 v1
            · simp only [show (n + 1 == n + 2) = false by simp, Bool.or_false]; exact hne
          · simp only [show (n + 1 == n + 2) = false by simp, show (n + 3 == n + 2) = false by simp, Bool.or_false]
            intro hx
            obtain ⟨b', hf', hb', hB'⟩ := h1 hx
            have hbb : b ≠ b' := fun e => hne hx (by rw [hf', e])
            exact ⟨b', hf', hb', (hB'.other 0 _ hbb).other 1 _ hbb⟩
          · intro _; simp [ln]
          · simp only [show (n + 1 == n + 2) = false by simp, show (n + 3 == n + 2) = false by simp, Bool.or_false]; exact c1
        · subst e
          have ln : L (n + 1) = true := depsB_dep hd d2
          obtain ⟨b, hf, hb0, hB⟩ := h1 ln
          rw [hL] at hB
          simp only [Bool.false_eq_true, if_false] at hB
          refine wpOp_mono (fun a' w'' h => ?_) (st1 f w' b (fun j => hdep (n + 3) j rfl) hf hB)
          obtain ⟨rfl, v0, v1, rfl, hq⟩ := h
          refine ⟨f, rfl, (hs.setCell hb0 _).setCell hb0 _, fun j hj hj2 => ?_, ?_, ?_, ?_, ?_⟩
          · exact hr j hj (by have : (j == n + 3) = false := by simp; omega
                              simpa [this] using hj2)
          · simp only [show (n == n + 3) = false by simp, show (n + 1 == n + 3) = false by simp, show (n + 2 == n + 3) = false by simp, Bool.or_false]
            intro hx
            obtain ⟨b', hf', hb', hB', hne⟩ := h0 hx
            have hbb : b ≠ b' := fun e => hne ln (by rw [hf, e])
            exact ⟨b', hf', hb', (hB'.other 0 _ hbb).other 1 _ hbb, hne⟩
          · intro _
            refine ⟨b, hf, hb0, ?_⟩
            simp only [BEq.rfl, Bool.or_true, if_true]
            rw [← hq]; exact (hB.set 0 v0).set 1 v1
          · simp only [show (n == n + 3) = false by simp, show (n + 2 == n + 3) = false by simp, Bool.or_false]; exact c0
          · intro _; simp [ln]
    · rintro L a' w' hall ⟨f, rfl, hs, hr, h0, h1, c0, c1⟩
      obtain ⟨b0, hf0, hb0, hB0, hne⟩ := h0 (hall n (by omega))
      obtain ⟨b1, hf1, hb1, hB1⟩ := h1 (hall (n + 1) (by omega))
      rw [hall (n + 2) (by omega)] at hB0
      rw [hall (n + 3) (by omega)] at hB1
      simp only [if_true] at hB0 hB1
      exact done f w' b0 b1 hs (fun e => hne (hall (n + 1) (by omega)) (by rw [hf1, e])) hb0 hb1 hf0 hf1 hB0 hB1 (fun i hi => hr i hi (hall i (by omega)))
  rw [tmOf_same] at h
  exact h

end Go.Proofs.YtimkeblcdodfmaaGreat

namespace Go.Proofs.YtimkeblcdodfmaaGreat
open Go.RowKit Go.Shelf
attribute [local go_sem] sumV Oper.semAt_some

theorem tdiv_neg' {x : Int} {b : Nat} (h : x < 0) : x.tdiv b = 0 - ((x.natAbs / b : Nat) : Int) := by
  obtain ⟨n, hn⟩ : ∃ n : Nat, x = -(n : Int) := ⟨x.natAbs, by omega⟩
  subst hn
  rw [Int.neg_tdiv, Int.natAbs_neg, Int.natAbs_natCast, show ((n : Int)).tdiv (b : Int) = ((n / b : Nat) : Int) from rfl]; omega
theorem tdiv_pos' {x : Int} {b : Nat} (h : 0 ≤ x) : x.tdiv b = ((x.natAbs / b : Nat) : Int) := by
  obtain ⟨n, hn⟩ : ∃ n : Nat, x = (n : Int) := ⟨x.natAbs, by omega⟩
  subst hn
  rw [Int.natAbs_natCast]; rfl

set_option maxRecDepth 100000 in
set_option maxHeartbeats 4000000 in
theorem over_any (x : Int) (b : Nat) (hx : In127 x) (hx2 : x.natAbs < 170141183460469231731687303715884105728) (hb0 : 0 < b) (hb7 : b < 170141183460469231731687303715884105728) (w : World) :
    Calls Tryz.prog 109 #[sumV x, sumV (b : Int)] w fun e w' => e = .returned (sumV (x.tdiv b)) ∧ Below w.heap.size w w' := by
  have hz := fun W => size_any x W hx
  have hq := fun W => quotient_any x.natAbs b hx2 hb0 hb7 W
  have hs := fun W => sign_any x W hx
  have hm := fun W => minus_any 0 ((x.natAbs / b : Nat) : Int) W
  unfold sumV at hz hq hs hm ⊢
  rw [show hiW 0 = 0 from rfl, show loW 0 = 0 from rfl] at hm
  have hres : (x < 0 → x.tdiv b = 0 - ((x.natAbs / b : Nat) : Int)) ∧ (0 ≤ x → x.tdiv b = ((x.natAbs / b : Nat) : Int)) := ⟨tdiv_neg', tdiv_pos'⟩
  have HRES := Lib.hid hres
  obtain ⟨q, hqe⟩ : ∃ q : Int, ((x.natAbs / b : Nat) : Int) = q := ⟨_, rfl⟩
  rw [hqe] at hq hm HRES
  clear hx2 hb0 hb7 hx hres hqe
  generalize hiW x = xh at *
  generalize loW x = xl at *
  generalize hiW (b : Int) = bh at *
  generalize loW (b : Int) = bl at *
  generalize hiW (x.natAbs : Int) = zh at *
  generalize loW (x.natAbs : Int) = zl at *
  generalize hqh : hiW q = qh at *
  generalize hql : loW q = ql at *
  generalize hiW ((x.natAbs % b : Nat) : Int) = rh at *
  generalize loW ((x.natAbs % b : Nat) : Int) = rl at *
  generalize hmh : hiW (0 - q) = mh at *
  generalize hml : loW (0 - q) = ml at *
  have HV := Lib.hid (And.intro hqh (And.intro hql (And.intro hmh hml)))
  have HZ := Lib.hid hz
  have HQ := Lib.hid hq
  have HS := Lib.hid hs
  have HM := Lib.hid hm
  clear hqh hql hmh hml hz hq hs hm
  obtain ⟨w1, hw1⟩ : ∃ w1, (((w.alloc (.cells #[.int .u64 xh, .int .u64 xl] 90)).alloc (.cells #[.int .u64 bh, .int .u64 bl] 90)).alloc (.cells #[.int .u64 0, .int .u64 0] 90)) = w1 := ⟨_, rfl⟩
  have hb1 : Below w.heap.size w w1 := by rw [← hw1]; exact bw3 w _ _ _
  have k0 : Blk w1 w.heap.size #[.int .u64 xh, .int .u64 xl] 90 := by rw [← hw1]; exact ((Blk.new w _ _).alloc _).alloc _
  have k1 : Blk w1 (w.heap.size + 1) #[.int .u64 bh, .int .u64 bl] 90 := by rw [← hw1]; exact (Blk.new' _ _ _ (by simp)).alloc _
  have k2 : Blk w1 (w.heap.size + 1 + 1) #[.int .u64 0, .int .u64 0] 90 := by rw [← hw1]; exact Blk.new' _ _ _ (by simp)
  go_enter Tryz.func109, Tryz.ntmps109
  go_upto_region 1 with fail
  go_cut [5, 6] from 7 to 13 (fun v5 v6 wx => ∃ b0 b1 : Nat, v5 = .pointer (some ⟨b0, 0, none⟩) ∧ v6 = .pointer (some ⟨b1, 0, none⟩) ∧ Blk wx b0 #[.int .u64 qh, .int .u64 ql] 90 ∧ Blk wx w.heap.size #[.int .u64 xh, .int .u64 xl] 90 ∧ Blk wx (w.heap.size + 1 + 1) #[.int .u64 0, .int .u64 0] 90 ∧ Below w.heap.size w wx)
  case first =>
    refine wp_region_def2 7 (fun i => match i with | 0 => .agg #[.int .u64 xh, .int .u64 xl] | 1 => .agg #[.int .u64 zh, .int .u64 zl] | 2 => .agg #[.int .u64 bh, .int .u64 bl] | 3 => .tuple #[.agg #[.int .u64 qh, .int .u64 ql], .agg #[.int .u64 rh, .int .u64 rl]] | 4 => .tuple #[.agg #[.int .u64 qh, .int .u64 ql], .agg #[.int .u64 rh, .int .u64 rl]] | 5 => .agg #[.int .u64 qh, .int .u64 ql] | _ => .agg #[.int .u64 rh, .int .u64 rl]) #[.int .u64 0, .int .u64 0] #[.int .u64 qh, .int .u64 ql] #[.int .u64 rh, .int .u64 rl] 90 (by kernel_rfl) (by kernel_rfl) rfl (by kernel_rfl) (by kernel_rfl) ?_ ?_ ?_ ?_ ?_
    · rintro i hi f ww hS hd
      have f0 := (k0.kept hS).cell (i := 0) rfl
      have f1 := (k0.kept hS).cell (i := 1) rfl
      have f2 := (k1.kept hS).cell (i := 0) rfl
      have f3 := (k1.kept hS).cell (i := 1) rfl
      rcases i with _ | _ | _ | _ | _ | _ | _ | i
      · refine wpOp_list rfl ?_
        simp only [tmOf, putAll, List.map_cons, List.map_nil, List.setIfInBounds_toArray, List.set_cons_zero, List.set_cons_succ]
        go_wp2
        simp [upd, Below.refl]
      · have g0 : f 0 = .agg #[.int .u64 xh, .int .u64 xl] := hd 0 (by decide) (by kernel_rfl)
        refine wpOp_list rfl ?_
        simp only [tmOf, putAll, List.map_cons, List.map_nil, List.setIfInBounds_toArray, List.set_cons_zero, List.set_cons_succ]
        go_wp2_with fail
        refine (HZ.out _).mono ?_
        rintro e' wf ⟨rfl, hbf⟩
        go_wp2_with fail
        simp [upd, g0, hbf]
      · refine wpOp_list rfl ?_
        simp only [tmOf, putAll, List.map_cons, List.map_nil, List.setIfInBounds_toArray, List.set_cons_zero, List.set_cons_succ]
        go_wp2
        simp [upd, Below.refl]
      · have g1 : f 1 = .agg #[.int .u64 zh, .int .u64 zl] := hd 1 (by decide) (by kernel_rfl)
        have g2 : f 2 = .agg #[.int .u64 bh, .int .u64 bl] := hd 2 (by decide) (by kernel_rfl)
        refine wpOp_list rfl ?_
        simp only [tmOf, putAll, List.map_cons, List.map_nil, List.setIfInBounds_toArray, List.set_cons_zero, List.set_cons_succ]
        go_wp2_with fail
        refine (HQ.out _).mono ?_
        rintro e' wf ⟨rfl, hbf⟩
        go_wp2_with fail
        simp [upd, g1, g2, hbf]
      · have g3 : f 3 = .tuple #[.agg #[.int .u64 qh, .int .u64 ql], .agg #[.int .u64 rh, .int .u64 rl]] := hd 3 (by decide) (by kernel_rfl)
        refine wpOp_list rfl ?_
        simp only [tmOf, putAll, List.map_cons, List.map_nil, List.setIfInBounds_toArray, List.set_cons_zero, List.set_cons_succ]
        go_wp2
        simp [upd, g3, Below.refl]
      · have g4 : f 4 = .tuple #[.agg #[.int .u64 qh, .int .u64 ql], .agg #[.int .u64 rh, .int .u64 rl]] := hd 4 (by decide) (by kernel_rfl)
        refine wpOp_list rfl ?_
        simp only [tmOf, putAll, List.map_cons, List.map_nil, List.setIfInBounds_toArray, List.set_cons_zero, List.set_cons_succ]
        go_wp2
        simp [upd, g4, Below.refl]
      · have g4 : f 4 = .tuple #[.agg #[.int .u64 qh, .int .u64 ql], .agg #[.int .u64 rh, .int .u64 rl]] := hd 4 (by decide) (by kernel_rfl)
        refine wpOp_list rfl ?_
        simp only [tmOf, putAll, List.map_cons, List.map_nil, List.setIfInBounds_toArray, List.set_cons_zero, List.set_cons_succ]
        go_wp2
        simp [upd, g4, Below.refl]
      · omega
    · rintro i (rfl | rfl) f ww
      · refine wpOp_list rfl ?_
        simp only [tmOf, putAll, List.map_cons, List.map_nil, List.setIfInBounds_toArray, List.set_cons_zero, List.set_cons_succ]
        go_wp2
        simp [upd]
      · refine wpOp_list rfl ?_
        simp only [tmOf, putAll, List.map_cons, List.map_nil, List.setIfInBounds_toArray, List.set_cons_zero, List.set_cons_succ]
        go_wp2
        simp [upd]
    · rintro f ww b0 hd hf hB
      have g5 : f 5 = .agg #[.int .u64 qh, .int .u64 ql] := hd 5 (by decide) (by kernel_rfl)
      have e0 := hB.cell (i := 0) rfl
      have e1 := hB.cell (i := 1) rfl
      have e2 := hB.frozen 0
      have e3 := hB.frozen 1
      refine wpOp_list rfl ?_
      simp only [tmOf, putAll, List.map_cons, List.map_nil, List.setIfInBounds_toArray, List.set_cons_zero, List.set_cons_succ]
      go_wp2
    · rintro f ww b0 hd hf hB
      have g6 : f 6 = .agg #[.int .u64 rh, .int .u64 rl] := hd 6 (by decide) (by kernel_rfl)
      have e0 := hB.cell (i := 0) rfl
      have e1 := hB.cell (i := 1) rfl
      have e2 := hB.frozen 0
      have e3 := hB.frozen 1
      refine wpOp_list rfl ?_
      simp only [tmOf, putAll, List.map_cons, List.map_nil, List.setIfInBounds_toArray, List.set_cons_zero, List.set_cons_succ]
      go_wp2
    · rintro f ww b0 b1 hS hne hg0 hg1 hf0 hf1 hB0 hB1 hall
      simp only [tmOf, putAll, List.map_cons, List.map_nil, List.setIfInBounds_toArray, List.set_cons_zero, List.set_cons_succ]
      refine ‹∀ (a' : Act) (w' : World), Met _ a' w' → _› _ _ ?_
      go_meet
      case rel => exact ⟨b0, b1, hf0, hf1, hB0, k0.kept hS, k2.kept hS, hb1.trans (hS.mono hb1.size)⟩
  case rest =>
  clear k0 k1 k2 hb1 hw1
  obtain ⟨b0, b1, rfl, rfl, kq, k0, k2, hb1⟩ := hcut
  have c0 := k0.cell (i := 0) rfl
  have c1 := k0.cell (i := 1) rfl
  go_wp2_with fail
  refine (HS.out _).mono ?_
  rintro e' w3 ⟨rfl, hb3⟩
  have kq := kq.kept hb3
  have k2 := k2.kept hb3
  have hb3' := hb1.trans (hb3.mono hb1.size)
  clear c0 c1 k0
  have c0 := kq.cell (i := 0) rfl
  have c1 := kq.cell (i := 1) rfl
  have c2 := k2.cell (i := 0) rfl
  have c3 := k2.cell (i := 1) rfl
  have q0 := k2.frozen 0
  have q1 := k2.frozen 1
  rcases Int.lt_or_le x 0 with h | h
  · rw [sgnI_neg h]
    have HE := Lib.hid (HRES.out.1 h)
    clear h
    go_wp2_with fail
    refine (HM.out _).mono ?_
    rintro e' w4 ⟨rfl, hb4⟩
    have k2 := k2.kept hb4
    have hb4' := hb3'.trans (hb4.mono hb3'.size)
    have c2 := k2.cell (i := 0) rfl
    have c3 := k2.cell (i := 1) rfl
    have q0 := k2.frozen 0
    have q1 := k2.frozen 1
    go_wp2_with fail
    have L := (k2.set_eq 0 (.int .u64 mh) rfl).set_eq 1 (.int .u64 ml) rfl
    have z0 := L.cell (i := 0) rfl
    have z1 := L.cell (i := 1) rfl
    exact bodyPost_ret (v := .agg #[.int .u64 mh, .int .u64 ml]) (by simp [results, Tryz.results109, go_sem, z0, z1]) rfl ⟨by rw [HE.out, ← HV.out.2.2.1, ← HV.out.2.2.2], (hb4'.setCell (by simp only; omega) _).setCell (by simp only; omega) _⟩
  · have hsg : ¬ sgnI x < 0 := by
      rcases Int.lt_trichotomy x 0 with h2 | h2 | h2
      · omega
      · rw [h2]; decide
      · rw [sgnI_pos h2]; decide
    have HE := Lib.hid (HRES.out.2 h)
    clear h
    go_wp2_with fail
    have L := (k2.set_eq 0 (.int .u64 qh) rfl).set_eq 1 (.int .u64 ql) rfl
    have z0 := L.cell (i := 0) rfl
    have z1 := L.cell (i := 1) rfl
    exact bodyPost_ret (v := .agg #[.int .u64 qh, .int .u64 ql]) (by simp [results, Tryz.results109, go_sem, z0, z1]) rfl ⟨by rw [HE.out, ← HV.out.1, ← HV.out.2.1], (hb3'.setCell (by simp only; omega) _).setCell (by simp only; omega) _⟩

end Go.Proofs.YtimkeblcdodfmaaGreat

namespace Go.Proofs.YtimkeblcdodfmaaGreat
open Go.RowKit Go.Shelf
attribute [local go_sem] sumV Oper.semAt_some

/-- Integers as cells. -/
def iCells (zs : List Int) : Array Value := (zs.map fun z => Value.int .i64 z).toArray
theorem iCells_set (zs : List Int) (i : Nat) (z : Int) : (iCells zs).setIfInBounds i (.int .i64 z) = iCells (zs.set i z) := by simp [iCells, List.map_set]
theorem iCells_get {zs : List Int} {i : Nat} {z : Int} (h : zs[i]? = some z) : (iCells zs)[i]? = some (.int .i64 z) := by simp [iCells, h]
theorem iCells_zero (n : Nat) : cellsOf .i64 (List.replicate n 0) = iCells (List.replicate n 0) := by simp [iCells, cellsOf]

/-- make([]int64, n) -/
theorem mkInt64 (n : Nat) (hn : n ≤ 35184372088832) (w : World) :
    (Instr.makeSlice 119 (.int .i64 (n : Int)) (.int .i64 (n : Int))).run Tryz.prog w = .ok (.slice (some ⟨w.heap.size, 0, none⟩) n n) (w.alloc (.cells (Go.madeCells #[.int .i64 0] n) 2)) :=
  run_make_row' _ _ (.int .i64 0) 8 Tryz.underlying119 (by kernel_rfl) rfl .i64 .i64 n (by omega) (by omega) w

def InI64 (x : Int) : Prop := -9223372036854775808 ≤ x ∧ x < 9223372036854775808
instance (x : Int) : Decidable (InI64 x) := by unfold InI64; infer_instance

/-- What lowest terms of a list are. -/
def lowRow (d : Nat) (xs : List Int) : List Int := xs.map fun x => x.tdiv d

theorem low_snoc {d : Nat} {xs : List Int} {i : Nat} (hi : i < xs.length) :
    (lowRow d (xs.take i) ++ List.replicate (xs.length - i) 0).set i (xs[i].tdiv d) = lowRow d (xs.take (i + 1)) ++ List.replicate (xs.length - (i + 1)) 0 := by
  have h1 : (lowRow d (xs.take i)).length = i := by simp [lowRow]; omega
  obtain ⟨m, hm⟩ : ∃ m, xs.length - i = m + 1 := ⟨xs.length - i - 1, by omega⟩
  rw [List.set_append_right _ _ (by omega), h1, Nat.sub_self, hm, List.replicate_succ, List.set_cons_zero, show xs.length - (i + 1) = m by omega, List.take_succ_eq_append_getElem hi]
  simp only [lowRow, List.map_append, List.map_cons, List.map_nil, List.append_assoc, List.singleton_append]

theorem gcdL_dvd : ∀ (xs : List Int) (d : Nat), gcdL d xs ∣ d ∧ ∀ x ∈ xs, gcdL d xs ∣ x.natAbs := by
  intro xs
  induction xs with
  | nil => intro d; exact ⟨Nat.dvd_refl _, fun x h => by cases h⟩
  | cons y ys ih =>
    intro d
    obtain ⟨h1, h2⟩ := ih (Nat.gcd d y.natAbs)
    refine ⟨Nat.dvd_trans h1 (Nat.gcd_dvd_left ..), fun x hx => ?_⟩
    rcases List.mem_cons.1 hx with rfl | hx
    · exact Nat.dvd_trans h1 (Nat.gcd_dvd_right ..)
    · exact h2 x hx
theorem gcdL_lt {M : Nat} (hM : 0 < M) : ∀ (xs : List Int) (d : Nat), d < M → (∀ x ∈ xs, x.natAbs < M) → gcdL d xs < M := by
  intro xs
  induction xs with
  | nil => intro d h _; exact h
  | cons y ys ih =>
    intro d h hx
    show gcdL (Nat.gcd d y.natAbs) ys < M
    refine ih (Nat.gcd d y.natAbs) ?_ (fun x hx' => hx x (List.mem_cons_of_mem _ hx'))
    rcases Nat.eq_zero_or_pos d with h0 | h0
    · rw [h0, Nat.gcd_zero_left]; exact hx y (List.mem_cons_self ..)
    · exact Nat.lt_of_le_of_lt (Nat.gcd_le_left _ h0) h

set_option maxRecDepth 100000 in
set_option maxHeartbeats 4000000 in
theorem lowest_any (p : Option Addr) (n c : Nat) (xs : List Int) (w : World) (hl : xs.length = n) (hn : n ≤ 1000) (hr : RdSum w p xs) (hx : ∀ x ∈ xs, In127 x ∧ x.natAbs < 170141183460469231731687303715884105728) :
    Calls Tryz.prog 79 #[.slice p n c] w fun e w' => Below w.heap.size w w' ∧
      (((∀ x ∈ xs, InI64 (x.tdiv (gcdL 0 xs))) ∧ ∃ B, w.heap.size ≤ B ∧ e = .returned (.tuple #[.slice (some ⟨B, 0, none⟩) n n, .bool true]) ∧ Blk w' B (iCells (lowRow (gcdL 0 xs) xs)) 2) ∨
       ((∃ x ∈ xs, ¬ InI64 (x.tdiv (gcdL 0 xs))) ∧ e = .returned (.tuple #[.slice none 0 0, .bool false]))) := by
  have hdl := divisorL_any p n c xs w hl hn hr hx
  have hd7 : gcdL 0 xs < 170141183460469231731687303715884105728 := gcdL_lt (by decide) xs 0 (by decide) (fun x h => (hx x h).2)
  have hz : gcdL 0 xs = 0 → ∀ x ∈ xs, x = 0 := fun h0 x hxx => by
    have := (gcdL_dvd xs 0).2 x hxx
    rw [h0] at this
    have := Nat.zero_dvd.1 this
    omega
  have hlow : ∀ x ∈ xs, (x.tdiv (gcdL 0 xs)).natAbs ≤ x.natAbs := fun x _ => by
    rw [Int.natAbs_tdiv]; exact Nat.div_le_self _ _
  generalize gcdL 0 xs = d at *
  have HX := Lib.hid hx
  have HL := Lib.hid hl
  have HR := Lib.hid hr
  have HZ := Lib.hid hz
  have HLO := Lib.hid hlow
  have HD := Lib.hid hdl
  clear hx hr hz hlow hdl
  have heq : ∀ W, (binOp .eql 90 (.agg #[.int .u64 (hiW (d : Int)), .int .u64 (loW (d : Int))]) (.agg #[.int .u64 0, .int .u64 0])).run Tryz.prog W = .ok (.bool (decide (d = 0))) W := by
    intro W
    rw [eql_sum]
    by_cases h : d = 0
    · rw [h]; rfl
    · rw [decide_eq_false h]
      cases e : (hiW (d : Int) == 0 && loW (d : Int) == 0)
      · rfl
      · simp at e; have := (zero_words (x := (d : Int)) ⟨by omega, by omega⟩).1 e; omega
  have hov : 0 < d → ∀ x ∈ xs, ∀ W, Calls Tryz.prog 109 #[.agg #[.int .u64 (hiW x), .int .u64 (loW x)], .agg #[.int .u64 (hiW (d : Int)), .int .u64 (loW (d : Int))]] W fun e w' => e = .returned (.agg #[.int .u64 (hiW (x.tdiv d)), .int .u64 (loW (x.tdiv d))]) ∧ Below W.heap.size W w' :=
    fun h0 x hxx W => over_any x d (HX.out x hxx).1 (HX.out x hxx).2 h0 hd7 W
  have HOV := Lib.hid hov
  clear hov
  have HD7 := Lib.hid hd7
  clear hd7
  generalize hdh : hiW (d : Int) = dh at *
  generalize hdl : loW (d : Int) = dl at *
  go_enter Tryz.func79, Tryz.ntmps79
  go_wp2_with fail
  refine HD.out.mono ?_
  rintro e w2 ⟨rfl, hb2⟩
  unfold sumV
  rw [hdh, hdl]
  clear hdh hdl
  obtain ⟨w3, hw3⟩ : ∃ w3, w2.alloc (.cells #[.int .u64 dh, .int .u64 dl] 90) = w3 := ⟨_, rfl⟩
  have kd : Blk w3 w2.heap.size #[.int .u64 dh, .int .u64 dl] 90 := by rw [← hw3]; exact Blk.new _ _ _
  have hb3 : Below w.heap.size w w3 := by rw [← hw3]; exact hb2.alloc hb2.size _
  have hsz3 : w3.heap.size = w2.heap.size + 1 := by rw [← hw3]; simp
  have hmk := mkInt64 n (by omega) w3
  obtain ⟨w4, hw4⟩ : ∃ w4, w3.alloc (.cells (Go.madeCells #[.int .i64 0] n) 2) = w4 := ⟨_, rfl⟩
  have kr : Blk w4 w3.heap.size (iCells (List.replicate n 0)) 2 := by
    rw [← hw4, ← iCells_zero]; exact Own.new .i64 2 w3 n
  have hb4 : Below w.heap.size w w4 := by rw [← hw4]; exact hb3.alloc hb3.size _
  have kd := kd.alloc (.cells (Go.madeCells #[.int .i64 0] n) 2)
  rw [hw4] at kd hmk
  obtain ⟨B, hB⟩ : ∃ B, w3.heap.size = B := ⟨_, rfl⟩
  rw [hB] at hmk kr
  have hBw : w.heap.size ≤ B := by have := hb3.size; omega
  have hBD : w2.heap.size < B := by omega
  have hDw : w.heap.size ≤ w2.heap.size := hb2.size
  obtain ⟨D, hD⟩ : ∃ D, w2.heap.size = D := ⟨_, rfl⟩
  rw [hD] at kd hBD hDw
  clear hB hsz3 hw4 hb3
  have c0 := kd.cell (i := 0) rfl
  have c1 := kd.cell (i := 1) rfl
  by_cases hd0 : d = 0
  · have hdd : decide (d = 0) = true := decide_eq_true hd0
    rw [hdd] at heq
    have hall : ∀ x ∈ xs, x = 0 := HZ.out hd0
    have hrow : lowRow d xs = List.replicate n 0 := by
      rw [← HL.out]
      apply List.ext_getElem
      · simp [lowRow]
      · intro i h1 h2
        simp only [lowRow, List.getElem_map, List.getElem_replicate]
        rw [hall _ (List.getElem_mem _)]; exact Int.zero_tdiv _
    have HRO := Lib.hid hrow
    have HA := Lib.hid hall
    clear hdd hall hrow hd0
    go_wp2_with fail
    go_ret2
    refine ⟨hb4, Or.inl ⟨fun x hx => ?_, B, hBw, rfl, by rw [HRO.out]; exact kr⟩⟩
    rw [HA.out x hx, Int.zero_tdiv]; decide
  · have hdd : decide (d = 0) = false := decide_eq_false hd0
    rw [hdd] at heq
    have hd1 : 0 < d := by omega
    have HO := Lib.hid (HOV.out hd1)
    clear hdd hd0 HOV
    go_wp2_with fail
    go_loopg [21] n (fun gk v21 wr => ∃ i : Nat, i ≤ n ∧ gk = n - i ∧ v21 = .int .i64 (i : Int) ∧ Hid (∀ x ∈ xs.take i, InI64 (x.tdiv d)) ∧ Blk wr D #[.int .u64 dh, .int .u64 dl] 90 ∧ Blk wr B (iCells (lowRow d (xs.take i) ++ List.replicate (n - i) 0)) 2 ∧ Below w.heap.size w wr)
    case atStart => exact ⟨0, Nat.zero_le _, rfl, rfl, fun x hx => by simp at hx, kd, by simpa [lowRow] using kr, hb4⟩
    case round =>
      clear kd kr hb4 c0 c1 hmk
      obtain ⟨i, hi, hgk, rfl, HI, kd, kr, hb⟩ := hrel
      have HGK := Lib.hid hgk
      clear hgk
      by_cases hlt : i < n
      · have hil : i < xs.length := by rw [HL.out]; exact hlt
        have hlti : (i : Int) < (n : Int) := by omega
        obtain ⟨b, off, rfl, hbl, hc0, hc1⟩ := HR.out i _ (List.getElem?_eq_getElem hil)
        have hmem := List.getElem_mem hil
        have hov := HO.out _ hmem
        have hlo := HLO.out _ hmem
        have hxx := HX.out _ hmem
        have hsn := low_snoc (d := d) hil
        rw [HL.out] at hsn
        have htk : xs.take (i + 1) = xs.take i ++ [xs[i]] := List.take_succ_eq_append_getElem hil
        have f0 := (hb.cell (p := ⟨b, off + i * 2, none⟩) hbl).trans hc0
        have f1 := (hb.cell (p := ⟨b, off + i * 2 + 1, none⟩) hbl).trans hc1
        generalize xs[i] = x at *
        obtain ⟨q, hq⟩ : ∃ q, x.tdiv d = q := ⟨_, rfl⟩
        rw [hq] at hov hlo hsn
        have hq7 : In127 q := by unfold In127; have := hxx.2; omega
        have hin := fun W => int_any q W hq7
        have HH := Lib.hid (And.intro hsn (And.intro htk (And.intro hq hmem)))
        clear hxx hlo hsn htk hq hmem hc0 hc1 hbl hq7
        unfold sumV at hin
        generalize hiW x = xh at *
        generalize loW x = xl at *
        generalize hiW q = qh at *
        generalize loW q = ql at *
        have HOV := Lib.hid hov
        have HIN := Lib.hid hin
        clear hov hin
        obtain ⟨w5, hw5⟩ : ∃ w5, wr.alloc (.cells #[.int .u64 xh, .int .u64 xl] 90) = w5 := ⟨_, rfl⟩
        have ks : Blk w5 wr.heap.size #[.int .u64 xh, .int .u64 xl] 90 := by rw [← hw5]; exact Blk.new _ _ _
        have hb5 : Below wr.heap.size wr w5 := by rw [← hw5]; exact (Below.refl _ wr).alloc (Nat.le_refl _) _
        have kd := kd.kept hb5
        have kr := kr.kept hb5
        have hb5' := hb.trans (hb5.mono hb.size)
        have c0 := kd.cell (i := 0) rfl
        have c1 := kd.cell (i := 1) rfl
        have c2 := ks.cell (i := 0) rfl
        have c3 := ks.cell (i := 1) rfl
        go_wp2_with fail
        refine (HOV.out _).mono ?_
        rintro e w6 ⟨rfl, hb6⟩
        go_wp2_with fail
        refine (HIN.out _).mono ?_
        rintro e w7 ⟨rfl, hb7⟩
        have kd := (kd.kept hb6).kept hb7
        have kr := (kr.kept hb6).kept hb7
        have hb7' := (hb5'.trans (hb6.mono hb5'.size)).trans (hb7.mono (hb5'.trans (hb6.mono hb5'.size)).size)
        clear c0 c1 c2 c3 ks hb5 hb6 hb7 hb5' hw5
        by_cases hfit : -9223372036854775808 ≤ q ∧ q < 9223372036854775808
        · rw [if_pos hfit, decide_eq_true hfit]
          have HF := Lib.hid hfit
          clear hfit
          have hget : (lowRow d (xs.take i) ++ List.replicate (n - i) 0)[i]? = some 0 := by
            have h1 : (lowRow d (xs.take i)).length = i := by simp [lowRow]; omega
            rw [List.getElem?_append_right (by omega), h1, Nat.sub_self]
            rw [List.getElem?_replicate]; simp; omega
          have c4 := kr.cell (iCells_get hget)
          have q4 := kr.frozen i
          have hi0 : (0 : Int) ≤ (i : Int) := by omega
          clear hget
          go_wp2_with fail
          go_roundg (n - (i + 1))
          case measure => rw [HGK.out]; omega
          case rel =>
            refine ⟨i + 1, by omega, rfl, by go_num, ?_, kd.other i _ (by omega), ?_, hb7'.setCell hBw _⟩
            · intro y hy
              rw [HH.out.2.1] at hy
              rcases List.mem_append.1 hy with hy | hy
              · exact HI.out y hy
              · rw [List.mem_singleton] at hy
                rw [hy, HH.out.2.2.1]; exact HF.out
            · have := kr.set i (.int .i64 q)
              rw [iCells_set, HH.out.1] at this
              exact this
        · rw [if_neg hfit, decide_eq_false hfit]
          have HF := Lib.hid hfit
          clear hfit
          go_wp2_with fail
          go_ret2
          exact ⟨hb7', Or.inr ⟨⟨x, HH.out.2.2.2, by rw [HH.out.2.2.1]; exact HF.out⟩, rfl⟩⟩
      · have hlti : ¬ (i : Int) < (n : Int) := by omega
        have hin : i = n := by omega
        have HIN := Lib.hid hin
        clear hin
        go_wp2_with fail
        go_ret2
        have htk : xs.take i = xs := List.take_of_length_le (by rw [HL.out, HIN.out]; exact Nat.le_refl _)
        rw [htk, HIN.out, Nat.sub_self] at kr
        refine ⟨hb, Or.inl ⟨fun x hx => HI.out x (by rw [htk]; exact hx), B, hBw, rfl, by simpa using kr⟩⟩

end Go.Proofs.YtimkeblcdodfmaaGreat
