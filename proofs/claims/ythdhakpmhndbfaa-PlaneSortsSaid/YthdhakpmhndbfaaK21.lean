/-
  The reference's Sorted.
-/
import Derived.Test.YthdhakpmhndbfaaK1
import Derived.Test.YthdhakpmhndbfaaK2
import Derived.Test.YthdhakpmhndbfaaK3
import Derived.Test.YthdhakpmhndbfaaK4
import Derived.Test.YthdhakpmhndbfaaK5
import Derived.Test.YthdhakpmhndbfaaK6
import Derived.Test.YthdhakpmhndbfaaK7
import Derived.Test.YthdhakpmhndbfaaK8
import Derived.Test.YthdhakpmhndbfaaK9
import Derived.Test.YthdhakpmhndbfaaK10
import Derived.Test.YthdhakpmhndbfaaK11
import Derived.Test.YthdhakpmhndbfaaK12
import Derived.Test.YthdhakpmhndbfaaK13
import Derived.Test.YthdhakpmhndbfaaK14
import Derived.Test.YthdhakpmhndbfaaK15
import Derived.Test.YthdhakpmhndbfaaK16
import Derived.Test.YthdhakpmhndbfaaK17
import Derived.Test.YthdhakpmhndbfaaK18
import Derived.Test.YthdhakpmhndbfaaK19
import Derived.Test.YthdhakpmhndbfaaK20
namespace Go.Proofs.Ythdhakpmhndbfaa
open Go.RowKit Go.Shelf
attribute [local go_sem] Oper.semAt_some

/-- Four cells at a place. -/
def At4 (W : World) (b o : Nat) (q : V4) : Prop := b < W.heap.size ∧ W.cell? ⟨b, o, none⟩ = some (.int .i64 q.a) ∧ W.cell? ⟨b, o + 1, none⟩ = some (.int .i64 q.b) ∧ W.cell? ⟨b, o + 2, none⟩ = some (.int .i64 q.c) ∧ W.cell? ⟨b, o + 3, none⟩ = some (.int .i64 q.d)
theorem At4.below {W W' : World} {b o : Nat} {q : V4} (h : At4 W b o q) (hb : Below W.heap.size W W') : At4 W' b o q :=
  ⟨Nat.lt_of_lt_of_le h.1 hb.size, (hb.cell (p := ⟨b, _, none⟩) h.1).trans h.2.1, (hb.cell (p := ⟨b, _, none⟩) h.1).trans h.2.2.1, (hb.cell (p := ⟨b, _, none⟩) h.1).trans h.2.2.2.1, (hb.cell (p := ⟨b, _, none⟩) h.1).trans h.2.2.2.2⟩
theorem RdV.at4 {W : World} {p : Option Addr} {l : List V4} (h : RdV W p l) {i : Nat} {q : V4} (hi : l[i]? = some q) : ∃ b off, p = some ⟨b, off, none⟩ ∧ At4 W b (off + i * 4) q := by
  obtain ⟨b, off, e, hlt, h0, h1, h2, h3⟩ := h i q hi
  exact ⟨b, off, e, hlt, h0, h1, h2, h3⟩
theorem RdV.drop {W : World} {g : Nat} {l : List V4} (h : RowV W g l) (k : Nat) : RdV W (some ⟨g, k * 4, none⟩) (l.drop k) := by
  intro i q hi
  rw [List.getElem?_drop] at hi
  obtain ⟨⟨h0, h1, h2, h3⟩, _⟩ := h.2 (k + i) q hi
  have e : k * 4 + i * 4 = (k + i) * 4 := by omega
  exact ⟨g, k * 4, rfl, h.1, by rw [e]; exact h0, by rw [e]; exact h1, by rw [e]; exact h2, by rw [e]; exact h3⟩
theorem RdV.none {W : World} {p : Option Addr} : RdV W p [] := fun i q hi => by simp at hi

theorem GrVP.mono {w : World} {base base' : Nat} {v : Value} {l : List V4} (h : GrVP w base v l) (hb : base' ≤ base) : GrVP w base' v l := by
  obtain ⟨⟨h1, h2⟩, h3⟩ := h
  refine ⟨⟨h1, ?_⟩, h3⟩
  rcases h2 with h2 | ⟨g, cap, cur, e, hg, r⟩
  · exact .inl h2
  · exact .inr ⟨g, cap, cur, e, Nat.le_trans hb hg, r⟩

/-- An element is put at its place. -/
theorem sortIs_put {Ok : V4 → Prop} {cf : V4 → V4 → Int} (ho : Ord4 Ok cf) {l out : List V4} {q : V4} {k : Nat} (hok : ∀ x ∈ l, Ok x) (hq : Ok q) (h : SortIs cf l out) (hk : k ≤ out.length) (hlt : ∀ j, j < k → ∀ x, out[j]? = some x → cf x q < 0)
    (hge : ∀ x, out[k]? = some x → ¬ cf x q < 0 ∧ x ≠ q) : SortIs cf (l ++ [q]) (out.take k ++ [q] ++ out.drop k) := by
  have hoko : ∀ x ∈ out, Ok x := fun x hx => hok x ((h.2 x).1 hx)
  have hdrop : ∀ x ∈ out.drop k, cf q x < 0 := by
    intro x hx
    have hkl : k < out.length := by
      rcases Nat.lt_or_ge k out.length with h1 | h1
      · exact h1
      · rw [List.drop_eq_nil_of_le h1] at hx; simp at hx
    have hd : out.drop k = out[k] :: out.drop (k + 1) := List.drop_eq_getElem_cons hkl
    have hy := hge out[k] (List.getElem?_eq_getElem hkl)
    have oky := hoko _ (List.getElem_mem hkl)
    have hqy : cf q out[k] < 0 := by
      rcases ho.tri q out[k] hq oky with a | a | a
      · exact a
      · exact absurd a.symm hy.2
      · exact absurd a hy.1
    rw [hd] at hx
    rcases List.mem_cons.1 hx with e | e
    · rw [e]; exact hqy
    · have hpw : (out.drop k).Pairwise (fun x y => cf x y < 0) := h.1.sublist (List.drop_sublist k out)
      rw [hd, List.pairwise_cons] at hpw
      exact ho.tr q out[k] x hq oky (hoko x (List.mem_of_mem_drop e)) hqy (hpw.1 x e)
  have htake : ∀ x ∈ out.take k, cf x q < 0 := by
    intro x hx
    obtain ⟨j, hj, e⟩ := List.getElem_of_mem hx
    rw [List.length_take] at hj
    refine hlt j (by omega) x ?_
    rw [← List.getElem?_take_of_lt (show j < k by omega), List.getElem?_eq_getElem (by rw [List.length_take]; exact hj), e]
  refine ⟨?_, fun x => ?_⟩
  · rw [List.append_assoc, List.pairwise_append]
    refine ⟨h.1.sublist (List.take_sublist k out), ?_, ?_⟩
    · show (q :: out.drop k).Pairwise _
      rw [List.pairwise_cons]
      exact ⟨hdrop, h.1.sublist (List.drop_sublist k out)⟩
    · intro x hx y hy
      have hy' : y ∈ q :: out.drop k := hy
      rcases List.mem_cons.1 hy' with e | e
      · rw [e]; exact htake x hx
      · exact ho.tr x q y (hoko x (List.mem_of_mem_take hx)) hq (hoko y (List.mem_of_mem_drop e)) (htake x hx) (hdrop y e)
  · have h1 := h.2 x
    have h2 : x ∈ out ↔ x ∈ out.take k ∨ x ∈ out.drop k := by
      rw [← List.mem_append, List.take_append_drop]
    simp only [List.mem_append, List.mem_singleton]
    rw [← h1, h2]
    constructor
    · rintro ((a | a) | a)
      · exact .inl (.inl a)
      · exact .inr a
      · exact .inl (.inr a)
    · rintro ((a | a) | a)
      · exact .inl (.inl a)
      · exact .inr a
      · exact .inl (.inr a)
theorem sortIs_same {cf : V4 → V4 → Int} {l out : List V4} {q : V4} (h : SortIs cf l out) (hq : q ∈ out) : SortIs cf (l ++ [q]) out := by
  refine ⟨h.1, fun x => ?_⟩
  rw [List.mem_append, List.mem_singleton, h.2 x]
  constructor
  · exact .inl
  · rintro (a | a)
    · exact a
    · rw [a]; exact (h.2 q).1 hq

set_option maxRecDepth 100000 in
set_option maxHeartbeats 8000000 in
theorem rsorted_any (p : Option Addr) (n cap : Nat) (l : List V4) (w : World) (hl : l.length = n) (hn : n ≤ 100000) (hr : RdV w p l) :
    Calls Try.prog 41 #[.slice p n cap] w fun e w' => ∃ p' c' l', e = .returned (.slice p' (List.length l') c') ∧ RdV w' p' l' ∧ SortIs cmpV l l' ∧ Below w.heap.size w w' := by
  have HL := Lib.hid hl
  have HR := Lib.hid hr
  clear hl hr
  go_enter Try.func41, Try.ntmps41
  go_wp2_with fail
  go_loopg [3, 4] n (fun gk v3 v4 wr => ∃ (i m c3 : Nat) (p3 : Option Addr) (out : List V4), i ≤ n ∧ gk = n - i ∧ v4 = .int .i64 (i : Int) ∧ v3 = .slice p3 m c3 ∧ Hid (out.length = m ∧ m ≤ i) ∧ Hid (GrVP wr w.heap.size v3 out) ∧ Hid (SortIs cmpV (l.take i) out) ∧ Below w.heap.size w wr)
  case atStart => exact ⟨0, 0, 0, none, [], Nat.zero_le _, rfl, rfl, rfl, ⟨rfl, Nat.le_refl _⟩, GrVP.nil _ _, ⟨List.Pairwise.nil, fun x => by simp⟩, Below.refl _ _⟩
  case round =>
    obtain ⟨i, m, c3, p3, out, hi, hgk, rfl, rfl, HM, HG, HS, hb⟩ := hrel
    have HGK := Lib.hid hgk
    clear hgk
    by_cases hlt : i < n
    · have hii : (i : Int) < (n : Int) := by omega
      have hil : i < l.length := by rw [HL.out]; exact hlt
      obtain ⟨q, hq⟩ : ∃ q, l[i]? = some q := ⟨_, List.getElem?_eq_getElem hil⟩
      have HQL := Lib.hid hq
      obtain ⟨b, off, rfl, hat⟩ := (HR.out.below hb).at4 hq
      have HQ0 := Lib.hid hat
      have htk : l.take (i + 1) = l.take i ++ [q] := by rw [List.take_add_one, hq]; rfl
      have HTK := Lib.hid htk
      have HMN := Lib.hid (show m ≤ n ∧ n ≤ 100000 by have := HM.out; omega)
      clear hq hat htk hil
      generalize wr = wo at *
      have hform : (m = 0 ∧ p3 = none ∧ c3 = 0 ∧ out = []) ∨ ∃ g, p3 = some ⟨g, 0, none⟩ ∧ w.heap.size ≤ g ∧ m ≤ c3 ∧ RowV wo g out := by
        rcases HG.out.row with ⟨hv, he⟩ | ⟨g, c, hv, hg, hc, hrow⟩
        · cases hv; exact .inl ⟨rfl, rfl, rfl, he⟩
        · have hv' := hv
          injection hv' with e1 e2 e3
          subst e1 e2 e3
          exact .inr ⟨g, rfl, hg, hc, hrow⟩
      have HFM := Lib.hid hform
      clear hform
      go_wp2_with fail
      go_loopg [5] m (fun gk v5 wx => ∃ k : Nat, k ≤ m ∧ gk = m - k ∧ v5 = .int .i64 (k : Int) ∧ Hid (∀ j, j < k → ∀ x, out[j]? = some x → cmpV x q < 0) ∧ Hid (Below wo.heap.size wo wx))
      case atStart => exact ⟨0, Nat.zero_le _, rfl, rfl, fun j hj => absurd hj (by omega), Below.refl _ _⟩
      case round =>
        obtain ⟨k, hk, hgk2, rfl, HLT, HBX⟩ := hrel
        have HGK2 := Lib.hid hgk2
        clear hgk2
        generalize wr = wx at *
        have HQ := Lib.hid (HQ0.out.below HBX.out)
        by_cases hkm : k < m
        · have hki : (k : Int) < (m : Int) := by omega
          have hkl : k < out.length := by rw [HM.out.1]; exact hkm
          obtain ⟨x, hx⟩ : ∃ x, out[k]? = some x := ⟨_, List.getElem?_eq_getElem hkl⟩
          have HX := Lib.hid hx
          obtain ⟨g, rfl, hg, hmc, hrow⟩ : ∃ g, p3 = some ⟨g, 0, none⟩ ∧ w.heap.size ≤ g ∧ m ≤ c3 ∧ RowV wo g out := by
            rcases HFM.out with ⟨h, _⟩ | h
            · omega
            · exact h
          have HRW := Lib.hid (hrow.below HBX.out)
          have HGC := Lib.hid (And.intro hg hmc)
          clear hx hkl hrow hg hmc HFM
          have ek : wrap64 ((k : Int) + 1) = (k : Int) + 1 := by have := HMN.out; unfold wrap64; omega
          obtain ⟨t, ht⟩ : ∃ t, decide (cmpV x q < 0) = t := ⟨_, rfl⟩
          have hle := fun W => less3_any x q W
          unfold lessV at hle
          rw [ht] at hle
          have HLE := Lib.hid hle
          have HT := Lib.hid ht
          clear hle ht
          go_upto_region 6 with fail
          go_cut [27] from 13 to 27 (fun vv wn => vv = .bool t ∧ Below wx.heap.size wx wn)
          case first =>
            refine wp_region_pure' (fun ix => match ix with | 0 => .int .i64 (k : Int) | 1 => .slice (some ⟨g, 0, none⟩) m c3 | 2 => .int .i64 (m : Int) | 3 => .bool true | 4 => .bool true | 5 => .slice (some ⟨g, 0, none⟩) m c3 | 6 => .int .i64 (k : Int) | 7 => .pointer (some ⟨g, k * 4, none⟩) | 8 => .agg #[.int .i64 x.a, .int .i64 x.b, .int .i64 x.c, .int .i64 x.d] | 9 => .slice (some ⟨b, off, none⟩) n cap | 10 => .int .i64 (i : Int) | 11 => .pointer (some ⟨b, off + i * 4, none⟩) | 12 => .agg #[.int .i64 q.a, .int .i64 q.b, .int .i64 q.c, .int .i64 q.d] | 13 => .bool t | _ => .bool t) (by kernel_rfl) (by kernel_rfl) ?_ ?_
            · rintro ix hx f ww hS hd
              have hRx := (HRW.out.below hS)
              obtain ⟨⟨y0_, y1_, y2_, y3_⟩, _⟩ := hRx.2 k x HX.out
              have hqq := HQ.out.below hS
              obtain ⟨d0, d1, d2, d3⟩ := hqq
              rcases ix with _ | _ | _ | _ | _ | _ | _ | _ | _ | _ | _ | _ | _ | _ | _ | ix
              · refine wpOp_list rfl ?_
                simp only [tmOf, putAll, List.map_cons, List.map_nil, List.setIfInBounds_toArray, List.set_cons_zero, List.set_cons_succ]
                go_wp2
                simp [upd, Below.refl]
              · refine wpOp_list rfl ?_
                simp only [tmOf, putAll, List.map_cons, List.map_nil, List.setIfInBounds_toArray, List.set_cons_zero, List.set_cons_succ]
                go_wp2
                simp [upd, Below.refl]
              · have g1 : f 1 = .slice (some ⟨g, 0, none⟩) m c3 := hd 1 (by kernel_rfl)
                refine wpOp_list rfl ?_
                simp only [tmOf, putAll, List.map_cons, List.map_nil, List.setIfInBounds_toArray, List.set_cons_zero, List.set_cons_succ]
                go_wp2
                simp [upd, g1, Below.refl]
              · have g0 : f 0 = .int .i64 (k : Int) := hd 0 (by kernel_rfl)
                have g2 : f 2 = .int .i64 (m : Int) := hd 2 (by kernel_rfl)
                refine wpOp_list rfl ?_
                simp only [tmOf, putAll, List.map_cons, List.map_nil, List.setIfInBounds_toArray, List.set_cons_zero, List.set_cons_succ]
                go_wp2
                simp [upd, g0, g2, Below.refl]
              · have g3 : f 3 = .bool true := hd 3 (by kernel_rfl)
                refine wpOp_list rfl ?_
                simp only [tmOf, putAll, List.map_cons, List.map_nil, List.setIfInBounds_toArray, List.set_cons_zero, List.set_cons_succ]
                go_wp2
                simp [upd, g3, Below.refl]
              · have g4 : f 4 = .bool true := hd 4 (by kernel_rfl)
                simp only [tmOf, putAll, List.map_cons, List.map_nil, List.setIfInBounds_toArray, List.set_cons_zero, List.set_cons_succ]
                refine wpOp_on rfl (wanted_of (b := true) rfl rfl rfl (congrArg some g4)) ?_
                go_wp2
                simp [upd, g4, Below.refl]
              · have g4 : f 4 = .bool true := hd 4 (by kernel_rfl)
                simp only [tmOf, putAll, List.map_cons, List.map_nil, List.setIfInBounds_toArray, List.set_cons_zero, List.set_cons_succ]
                refine wpOp_on rfl (wanted_of (b := true) rfl rfl rfl (congrArg some g4)) ?_
                go_wp2
                simp [upd, g4, Below.refl]
              · have g5 : f 5 = .slice (some ⟨g, 0, none⟩) m c3 := hd 5 (by kernel_rfl)
                have g6 : f 6 = .int .i64 (k : Int) := hd 6 (by kernel_rfl)
                have g4 : f 4 = .bool true := hd 4 (by kernel_rfl)
                simp only [tmOf, putAll, List.map_cons, List.map_nil, List.setIfInBounds_toArray, List.set_cons_zero, List.set_cons_succ]
                refine wpOp_on rfl (wanted_of (b := true) rfl rfl rfl (congrArg some g4)) ?_
                go_wp2
                simp [upd, g5, g6, g4, Below.refl]
              · have g7 : f 7 = .pointer (some ⟨g, k * 4, none⟩) := hd 7 (by kernel_rfl)
                have g4 : f 4 = .bool true := hd 4 (by kernel_rfl)
                simp only [tmOf, putAll, List.map_cons, List.map_nil, List.setIfInBounds_toArray, List.set_cons_zero, List.set_cons_succ]
                refine wpOp_on rfl (wanted_of (b := true) rfl rfl rfl (congrArg some g4)) ?_
                go_wp2
                simp [upd, g7, g4, Below.refl]
              · have g4 : f 4 = .bool true := hd 4 (by kernel_rfl)
                simp only [tmOf, putAll, List.map_cons, List.map_nil, List.setIfInBounds_toArray, List.set_cons_zero, List.set_cons_succ]
                refine wpOp_on rfl (wanted_of (b := true) rfl rfl rfl (congrArg some g4)) ?_
                go_wp2
                simp [upd, g4, Below.refl]
              · have g4 : f 4 = .bool true := hd 4 (by kernel_rfl)
                simp only [tmOf, putAll, List.map_cons, List.map_nil, List.setIfInBounds_toArray, List.set_cons_zero, List.set_cons_succ]
                refine wpOp_on rfl (wanted_of (b := true) rfl rfl rfl (congrArg some g4)) ?_
                go_wp2
                simp [upd, g4, Below.refl]
              · have g9 : f 9 = .slice (some ⟨b, off, none⟩) n cap := hd 9 (by kernel_rfl)
                have g10 : f 10 = .int .i64 (i : Int) := hd 10 (by kernel_rfl)
                have g4 : f 4 = .bool true := hd 4 (by kernel_rfl)
                simp only [tmOf, putAll, List.map_cons, List.map_nil, List.setIfInBounds_toArray, List.set_cons_zero, List.set_cons_succ]
                refine wpOp_on rfl (wanted_of (b := true) rfl rfl rfl (congrArg some g4)) ?_
                go_wp2
                simp [upd, g9, g10, g4, Below.refl]
              · have g11 : f 11 = .pointer (some ⟨b, off + i * 4, none⟩) := hd 11 (by kernel_rfl)
                have g4 : f 4 = .bool true := hd 4 (by kernel_rfl)
                simp only [tmOf, putAll, List.map_cons, List.map_nil, List.setIfInBounds_toArray, List.set_cons_zero, List.set_cons_succ]
                refine wpOp_on rfl (wanted_of (b := true) rfl rfl rfl (congrArg some g4)) ?_
                go_wp2
                simp [upd, g11, g4, Below.refl]
              · have g8 : f 8 = .agg #[.int .i64 x.a, .int .i64 x.b, .int .i64 x.c, .int .i64 x.d] := hd 8 (by kernel_rfl)
                have g12 : f 12 = .agg #[.int .i64 q.a, .int .i64 q.b, .int .i64 q.c, .int .i64 q.d] := hd 12 (by kernel_rfl)
                have g4 : f 4 = .bool true := hd 4 (by kernel_rfl)
                simp only [tmOf, putAll, List.map_cons, List.map_nil, List.setIfInBounds_toArray, List.set_cons_zero, List.set_cons_succ]
                refine wpOp_on rfl (wanted_of (b := true) rfl rfl rfl (congrArg some g4)) ?_
                go_wp2_with fail
                refine ((HLE).out _).mono ?_
                rintro e' wf ⟨rfl, hbf⟩
                go_wp2_with fail
                simp [upd, g8, g12, g4, hbf]
              · have g4 : f 4 = .bool true := hd 4 (by kernel_rfl)
                have g13 : f 13 = .bool t := hd 13 (by kernel_rfl)
                refine wpOp_list rfl ?_
                simp only [tmOf, putAll, List.map_cons, List.map_nil, List.setIfInBounds_toArray, List.set_cons_zero, List.set_cons_succ]
                go_wp2
                simp [upd, g4, g13, Below.refl]
              · simp only [List.length_cons, List.length_nil] at hx; omega
            · rintro f ww hS hd
              have gl : f 14 = .bool t := hd 14 (by decide)
              simp only [tmOf, putAll, List.map_cons, List.map_nil, List.setIfInBounds_toArray, List.set_cons_zero, List.set_cons_succ]
              refine ‹∀ (a' : Act) (w' : World), Met _ a' w' → _› _ _ ?_
              go_meet
              case rel => exact ⟨gl, hS⟩
          case rest =>
          obtain ⟨rfl, hby⟩ := hcut
          have HRY := Lib.hid (HRW.out.below hby)
          have HQY := Lib.hid (HQ.out.below hby)
          have HBY := Lib.hid (HBX.out.trans (hby.mono HBX.out.size))
          clear HLE HRW HQ HBX hby
          cases t with
          | true =>
            go_wp2_with fail
            go_roundg (m - (k + 1))
            case measure => rw [HGK2.out]; omega
            case rel =>
              refine ⟨k + 1, by omega, rfl, by go_num, fun j hj y hy => ?_, HBY.out⟩
              by_cases e : j = k
              · rw [e, HX.out] at hy
                cases hy
                exact of_decide_eq_true HT.out
              · exact HLT.out j (by omega) y hy
          | false =>
            generalize wc = wy at *
            have hHRW := HRY
            have HRW := HRY
            have HQ := HQY
            obtain ⟨u, hu⟩ : ∃ u, decide (x = q) = u := ⟨_, rfl⟩
            have HU := Lib.hid hu
            clear hu hHRW
            go_upto_region 8 with fail
            go_cut [44] from 30 to 44 (fun vv wn => vv = .bool u ∧ Below wy.heap.size wy wn)
            case first =>
              refine wp_region_pure' (fun ix => match ix with | 0 => .int .i64 (k : Int) | 1 => .slice (some ⟨g, 0, none⟩) m c3 | 2 => .int .i64 (m : Int) | 3 => .bool true | 4 => .bool true | 5 => .slice (some ⟨g, 0, none⟩) m c3 | 6 => .int .i64 (k : Int) | 7 => .pointer (some ⟨g, k * 4, none⟩) | 8 => .agg #[.int .i64 x.a, .int .i64 x.b, .int .i64 x.c, .int .i64 x.d] | 9 => .slice (some ⟨b, off, none⟩) n cap | 10 => .int .i64 (i : Int) | 11 => .pointer (some ⟨b, off + i * 4, none⟩) | 12 => .agg #[.int .i64 q.a, .int .i64 q.b, .int .i64 q.c, .int .i64 q.d] | 13 => .bool u | _ => .bool u) (by kernel_rfl) (by kernel_rfl) ?_ ?_
              · rintro ix hx f ww hS hd
                have hRx := (HRW.out.below hS)
                obtain ⟨⟨y0_, y1_, y2_, y3_⟩, _⟩ := hRx.2 k x HX.out
                have hqq := HQ.out.below hS
                obtain ⟨d0, d1, d2, d3⟩ := hqq
                have heq := fun w => eqPlane x q w
                rcases ix with _ | _ | _ | _ | _ | _ | _ | _ | _ | _ | _ | _ | _ | _ | _ | ix
                · refine wpOp_list rfl ?_
                  simp only [tmOf, putAll, List.map_cons, List.map_nil, List.setIfInBounds_toArray, List.set_cons_zero, List.set_cons_succ]
                  go_wp2
                  simp [upd, Below.refl]
                · refine wpOp_list rfl ?_
                  simp only [tmOf, putAll, List.map_cons, List.map_nil, List.setIfInBounds_toArray, List.set_cons_zero, List.set_cons_succ]
                  go_wp2
                  simp [upd, Below.refl]
                · have g1 : f 1 = .slice (some ⟨g, 0, none⟩) m c3 := hd 1 (by kernel_rfl)
                  refine wpOp_list rfl ?_
                  simp only [tmOf, putAll, List.map_cons, List.map_nil, List.setIfInBounds_toArray, List.set_cons_zero, List.set_cons_succ]
                  go_wp2
                  simp [upd, g1, Below.refl]
                · have g0 : f 0 = .int .i64 (k : Int) := hd 0 (by kernel_rfl)
                  have g2 : f 2 = .int .i64 (m : Int) := hd 2 (by kernel_rfl)
                  refine wpOp_list rfl ?_
                  simp only [tmOf, putAll, List.map_cons, List.map_nil, List.setIfInBounds_toArray, List.set_cons_zero, List.set_cons_succ]
                  go_wp2
                  simp [upd, g0, g2, Below.refl]
                · have g3 : f 3 = .bool true := hd 3 (by kernel_rfl)
                  refine wpOp_list rfl ?_
                  simp only [tmOf, putAll, List.map_cons, List.map_nil, List.setIfInBounds_toArray, List.set_cons_zero, List.set_cons_succ]
                  go_wp2
                  simp [upd, g3, Below.refl]
                · have g4 : f 4 = .bool true := hd 4 (by kernel_rfl)
                  simp only [tmOf, putAll, List.map_cons, List.map_nil, List.setIfInBounds_toArray, List.set_cons_zero, List.set_cons_succ]
                  refine wpOp_on rfl (wanted_of (b := true) rfl rfl rfl (congrArg some g4)) ?_
                  go_wp2
                  simp [upd, g4, Below.refl]
                · have g4 : f 4 = .bool true := hd 4 (by kernel_rfl)
                  simp only [tmOf, putAll, List.map_cons, List.map_nil, List.setIfInBounds_toArray, List.set_cons_zero, List.set_cons_succ]
                  refine wpOp_on rfl (wanted_of (b := true) rfl rfl rfl (congrArg some g4)) ?_
                  go_wp2
                  simp [upd, g4, Below.refl]
                · have g5 : f 5 = .slice (some ⟨g, 0, none⟩) m c3 := hd 5 (by kernel_rfl)
                  have g6 : f 6 = .int .i64 (k : Int) := hd 6 (by kernel_rfl)
                  have g4 : f 4 = .bool true := hd 4 (by kernel_rfl)
                  simp only [tmOf, putAll, List.map_cons, List.map_nil, List.setIfInBounds_toArray, List.set_cons_zero, List.set_cons_succ]
                  refine wpOp_on rfl (wanted_of (b := true) rfl rfl rfl (congrArg some g4)) ?_
                  go_wp2
                  simp [upd, g5, g6, g4, Below.refl]
                · have g7 : f 7 = .pointer (some ⟨g, k * 4, none⟩) := hd 7 (by kernel_rfl)
                  have g4 : f 4 = .bool true := hd 4 (by kernel_rfl)
                  simp only [tmOf, putAll, List.map_cons, List.map_nil, List.setIfInBounds_toArray, List.set_cons_zero, List.set_cons_succ]
                  refine wpOp_on rfl (wanted_of (b := true) rfl rfl rfl (congrArg some g4)) ?_
                  go_wp2
                  simp [upd, g7, g4, Below.refl]
                · have g4 : f 4 = .bool true := hd 4 (by kernel_rfl)
                  simp only [tmOf, putAll, List.map_cons, List.map_nil, List.setIfInBounds_toArray, List.set_cons_zero, List.set_cons_succ]
                  refine wpOp_on rfl (wanted_of (b := true) rfl rfl rfl (congrArg some g4)) ?_
                  go_wp2
                  simp [upd, g4, Below.refl]
                · have g4 : f 4 = .bool true := hd 4 (by kernel_rfl)
                  simp only [tmOf, putAll, List.map_cons, List.map_nil, List.setIfInBounds_toArray, List.set_cons_zero, List.set_cons_succ]
                  refine wpOp_on rfl (wanted_of (b := true) rfl rfl rfl (congrArg some g4)) ?_
                  go_wp2
                  simp [upd, g4, Below.refl]
                · have g9 : f 9 = .slice (some ⟨b, off, none⟩) n cap := hd 9 (by kernel_rfl)
                  have g10 : f 10 = .int .i64 (i : Int) := hd 10 (by kernel_rfl)
                  have g4 : f 4 = .bool true := hd 4 (by kernel_rfl)
                  simp only [tmOf, putAll, List.map_cons, List.map_nil, List.setIfInBounds_toArray, List.set_cons_zero, List.set_cons_succ]
                  refine wpOp_on rfl (wanted_of (b := true) rfl rfl rfl (congrArg some g4)) ?_
                  go_wp2
                  simp [upd, g9, g10, g4, Below.refl]
                · have g11 : f 11 = .pointer (some ⟨b, off + i * 4, none⟩) := hd 11 (by kernel_rfl)
                  have g4 : f 4 = .bool true := hd 4 (by kernel_rfl)
                  simp only [tmOf, putAll, List.map_cons, List.map_nil, List.setIfInBounds_toArray, List.set_cons_zero, List.set_cons_succ]
                  refine wpOp_on rfl (wanted_of (b := true) rfl rfl rfl (congrArg some g4)) ?_
                  go_wp2
                  simp [upd, g11, g4, Below.refl]
                · have g8 : f 8 = .agg #[.int .i64 x.a, .int .i64 x.b, .int .i64 x.c, .int .i64 x.d] := hd 8 (by kernel_rfl)
                  have g12 : f 12 = .agg #[.int .i64 q.a, .int .i64 q.b, .int .i64 q.c, .int .i64 q.d] := hd 12 (by kernel_rfl)
                  have g4 : f 4 = .bool true := hd 4 (by kernel_rfl)
                  simp only [tmOf, putAll, List.map_cons, List.map_nil, List.setIfInBounds_toArray, List.set_cons_zero, List.set_cons_succ]
                  refine wpOp_on rfl (wanted_of (b := true) rfl rfl rfl (congrArg some g4)) ?_
                  go_wp2
                  simp [upd, g4, g8, g12, Below.refl]
                  exact HU.out
                · have g4 : f 4 = .bool true := hd 4 (by kernel_rfl)
                  have g13 : f 13 = .bool u := hd 13 (by kernel_rfl)
                  refine wpOp_list rfl ?_
                  simp only [tmOf, putAll, List.map_cons, List.map_nil, List.setIfInBounds_toArray, List.set_cons_zero, List.set_cons_succ]
                  go_wp2
                  simp [upd, g4, g13, Below.refl]
                · simp only [List.length_cons, List.length_nil] at hx; omega
              · rintro f ww hS hd
                have gl : f 14 = .bool u := hd 14 (by decide)
                simp only [tmOf, putAll, List.map_cons, List.map_nil, List.setIfInBounds_toArray, List.set_cons_zero, List.set_cons_succ]
                refine ‹∀ (a' : Act) (w' : World), Met _ a' w' → _› _ _ ?_
                go_meet
                case rel => exact ⟨gl, hS⟩
            case rest =>
            obtain ⟨rfl, hbz⟩ := hcut
            have hbz' := HBY.out.trans (hbz.mono HBY.out.size)
            cases u with
            | true =>
              have HBZ := Lib.hid (hb.trans (hbz'.mono hb.size))
              have hxq : x = q := of_decide_eq_true HU.out
              have HSS := Lib.hid (sortIs_same HS.out (q := q) (by rw [← hxq]; exact List.mem_of_getElem? HX.out))
              have HGZ := Lib.hid (HG.out.below hbz')
              clear hbz hbz' hxq
              go_wp2_with fail
              go_roundg (n - (i + 1))
              case measure => rw [HGK.out]; omega
              case rel => exact ⟨i + 1, m, c3, _, out, by omega, rfl, by go_num, rfl, ⟨HM.out.1, by have := HM.out.2; omega⟩, HGZ.out, by rw [HTK.out]; exact HSS.out, HBZ.out⟩
            | false =>
              have HPUT := Lib.hid (sortIs_put ordP (q := q) (k := k) (fun _ _ => trivial) trivial HS.out (by rw [HM.out.1]; omega) HLT.out (fun y hy => by
                rw [HX.out] at hy
                cases hy
                exact ⟨of_decide_eq_false HT.out, of_decide_eq_false HU.out⟩))
              have HRZ := Lib.hid (HRY.out.below hbz)
              have HQZ := Lib.hid (HQY.out.below hbz)
              have HBZ := Lib.hid hbz'
              clear hbz hbz' HRY HQY HBY HRW HQ
              generalize wc = wz at *
              have hkc : (k : Int) ≤ (c3 : Int) := by have := HGC.out.2; omega
              have hkm0 : (k : Int) ≤ (m : Int) := by omega
              have htl : (out.take k).length = k := by rw [List.length_take, HM.out.1]; omega
              have hrt : RdV wz (some ⟨g, 0, none⟩) (out.take k) := (HRZ.out.take k).rdV
              have HTL := Lib.hid htl
              have HKB := Lib.hid (show k ≤ 100000 by have := HMN.out; omega)
              have hdl : (out.drop k).length = m - k := by rw [List.length_drop]; have := HM.out.1; omega
              have HDL := Lib.hid hdl
              clear hdl
              go_upto_region 11 with (at_builtin; refine pushVP_law rfl _ _ rfl rfl (GrVP.nil wz wz.heap.size) htl hrt rfl (by decide) (Nat.le_trans HKB.out (by decide)) (Nat.le_refl _) ?_; intro v1 w1 hg1 hb1)
              rw [List.nil_append] at hg1
              obtain ⟨hbl1, q0_, q1_, q2_, q3_⟩ := HQZ.out.below hb1
              have HQ1 := Lib.hid (HQZ.out.below hb1)
              clear hrt htl
              go_upto_region 12 with (at_builtin; refine push1P_law rfl _ _ rfl rfl hg1 q rfl (by rw [HTL.out]; exact Nat.le_trans HKB.out (by decide)) hb1.size ?_; intro v2 w2 hg2 hb2)
              have hb12 := hb1.trans hb2
              clear hb1 hb2 hg1 q0_ q1_ q2_ q3_ hbl1
              have hrd : RdV w2 (some ⟨g, k * 4, none⟩) (out.drop k) := RdV.drop (HRZ.out.below hb12) k
              have hll : (out.take k ++ [q]).length ≤ 1000000000 := by rw [List.length_append, HTL.out]; have := HKB.out; simp; omega
              have HDL2 := HDL.out
              have hml : m - k ≤ 1000000000 := by have := HMN.out; omega
              by_cases hkc3 : k = c3
              · exfalso; have := HGC.out.2; omega
              · have hkc4 : (k : Int) < (c3 : Int) := by have := HGC.out.2; omega
                have hkc5 : ¬ (c3 - k = 0) := by have := HGC.out.2; omega
                have HB12 := Lib.hid hb12
                have HRD := Lib.hid hrd
                clear hrd
                go_wp2_with (at_builtin; refine pushVP_law rfl _ _ rfl rfl hg2 HDL2 HRD.out rfl hll hml hb12.size ?_; intro v3 w3 hg3 hb3)
                have hb13 := HB12.out.trans hb3
                have hbA := HBZ.out.trans (hb13.mono HBZ.out.size)
                have hbF := hb.trans (hbA.mono hb.size)
                obtain ⟨pf, cf, hvf, _, _⟩ := hg3.rd
                have hlf : (out.take k ++ [q] ++ out.drop k).length = m + 1 := by
                  rw [List.length_append, List.length_append, HTL.out, HDL.out]; simp <;> omega
                rw [hlf] at hvf
                have HGF := Lib.hid (hg3.mono (base' := w.heap.size) (Nat.le_trans hb.size HBZ.out.size))
                have HBF := Lib.hid hbF
                have HLF := Lib.hid hlf
                have HVF := Lib.hid hvf
                clear hg3 hb3 hb13 hbA hbF hlf hvf hb12 hg2 hll hml HDL2
                go_wp2_with fail
                go_roundg (n - (i + 1))
                case measure => rw [HGK.out]; omega
                case rel => exact ⟨i + 1, m + 1, cf, pf, _, by omega, rfl, by go_num, HVF.out, ⟨HLF.out, by have := HM.out.2; omega⟩, HGF.out, by rw [HTK.out]; exact HPUT.out, HBF.out⟩
        · have hki : ¬ (k : Int) < (m : Int) := by omega
          obtain rfl : k = m := by omega
          go_upto_region 6 with fail
          go_cut [27] from 13 to 27 (fun vv wn => vv = .bool false ∧ Below wx.heap.size wx wn)
          case first =>
            refine wp_region_pure' (fun ix => match ix with | 0 => .int .i64 (k : Int) | 1 => .slice p3 k c3 | 2 => .int .i64 (k : Int) | 3 => .bool false | 4 => .bool false | 5 => undef | 6 => undef | 7 => undef | 8 => undef | 9 => undef | 10 => undef | 11 => undef | 12 => undef | 13 => undef | _ => .bool false) (by kernel_rfl) (by kernel_rfl) ?_ ?_
            · rintro ix hx f ww hS hd
              rcases ix with _ | _ | _ | _ | _ | _ | _ | _ | _ | _ | _ | _ | _ | _ | _ | ix
              · refine wpOp_list rfl ?_
                simp only [tmOf, putAll, List.map_cons, List.map_nil, List.setIfInBounds_toArray, List.set_cons_zero, List.set_cons_succ]
                go_wp2
                simp [upd, Below.refl]
              · refine wpOp_list rfl ?_
                simp only [tmOf, putAll, List.map_cons, List.map_nil, List.setIfInBounds_toArray, List.set_cons_zero, List.set_cons_succ]
                go_wp2
                simp [upd, Below.refl]
              · have g1 : f 1 = .slice p3 k c3 := hd 1 (by kernel_rfl)
                refine wpOp_list rfl ?_
                simp only [tmOf, putAll, List.map_cons, List.map_nil, List.setIfInBounds_toArray, List.set_cons_zero, List.set_cons_succ]
                go_wp2
                simp [upd, g1, Below.refl]
              · have g0 : f 0 = .int .i64 (k : Int) := hd 0 (by kernel_rfl)
                have g2 : f 2 = .int .i64 (k : Int) := hd 2 (by kernel_rfl)
                refine wpOp_list rfl ?_
                simp only [tmOf, putAll, List.map_cons, List.map_nil, List.setIfInBounds_toArray, List.set_cons_zero, List.set_cons_succ]
                go_wp2
                simp [upd, g0, g2, Below.refl]
              · have g3 : f 3 = .bool false := hd 3 (by kernel_rfl)
                refine wpOp_list rfl ?_
                simp only [tmOf, putAll, List.map_cons, List.map_nil, List.setIfInBounds_toArray, List.set_cons_zero, List.set_cons_succ]
                go_wp2
                simp [upd, g3, Below.refl]
              · have g4 : f 4 = .bool false := hd 4 (by kernel_rfl)
                simp only [tmOf, putAll, List.map_cons, List.map_nil, List.setIfInBounds_toArray, List.set_cons_zero, List.set_cons_succ]
                refine wpOp_off rfl (unwanted_of (b := false) rfl rfl rfl (congrArg some g4)) ?_
                simp [tmOf, Act.put, putAll, upd, Below.refl]
              · have g4 : f 4 = .bool false := hd 4 (by kernel_rfl)
                simp only [tmOf, putAll, List.map_cons, List.map_nil, List.setIfInBounds_toArray, List.set_cons_zero, List.set_cons_succ]
                refine wpOp_off rfl (unwanted_of (b := false) rfl rfl rfl (congrArg some g4)) ?_
                simp [tmOf, Act.put, putAll, upd, Below.refl]
              · have g4 : f 4 = .bool false := hd 4 (by kernel_rfl)
                simp only [tmOf, putAll, List.map_cons, List.map_nil, List.setIfInBounds_toArray, List.set_cons_zero, List.set_cons_succ]
                refine wpOp_off rfl (unwanted_of (b := false) rfl rfl rfl (congrArg some g4)) ?_
                simp [tmOf, Act.put, putAll, upd, Below.refl]
              · have g4 : f 4 = .bool false := hd 4 (by kernel_rfl)
                simp only [tmOf, putAll, List.map_cons, List.map_nil, List.setIfInBounds_toArray, List.set_cons_zero, List.set_cons_succ]
                refine wpOp_off rfl (unwanted_of (b := false) rfl rfl rfl (congrArg some g4)) ?_
                simp [tmOf, Act.put, putAll, upd, Below.refl]
              · have g4 : f 4 = .bool false := hd 4 (by kernel_rfl)
                simp only [tmOf, putAll, List.map_cons, List.map_nil, List.setIfInBounds_toArray, List.set_cons_zero, List.set_cons_succ]
                refine wpOp_off rfl (unwanted_of (b := false) rfl rfl rfl (congrArg some g4)) ?_
                simp [tmOf, Act.put, putAll, upd, Below.refl]
              · have g4 : f 4 = .bool false := hd 4 (by kernel_rfl)
                simp only [tmOf, putAll, List.map_cons, List.map_nil, List.setIfInBounds_toArray, List.set_cons_zero, List.set_cons_succ]
                refine wpOp_off rfl (unwanted_of (b := false) rfl rfl rfl (congrArg some g4)) ?_
                simp [tmOf, Act.put, putAll, upd, Below.refl]
              · have g4 : f 4 = .bool false := hd 4 (by kernel_rfl)
                simp only [tmOf, putAll, List.map_cons, List.map_nil, List.setIfInBounds_toArray, List.set_cons_zero, List.set_cons_succ]
                refine wpOp_off rfl (unwanted_of (b := false) rfl rfl rfl (congrArg some g4)) ?_
                simp [tmOf, Act.put, putAll, upd, Below.refl]
              · have g4 : f 4 = .bool false := hd 4 (by kernel_rfl)
                simp only [tmOf, putAll, List.map_cons, List.map_nil, List.setIfInBounds_toArray, List.set_cons_zero, List.set_cons_succ]
                refine wpOp_off rfl (unwanted_of (b := false) rfl rfl rfl (congrArg some g4)) ?_
                simp [tmOf, Act.put, putAll, upd, Below.refl]
              · have g4 : f 4 = .bool false := hd 4 (by kernel_rfl)
                simp only [tmOf, putAll, List.map_cons, List.map_nil, List.setIfInBounds_toArray, List.set_cons_zero, List.set_cons_succ]
                refine wpOp_off rfl (unwanted_of (b := false) rfl rfl rfl (congrArg some g4)) ?_
                simp [tmOf, Act.put, putAll, upd, Below.refl]
              · have g4 : f 4 = .bool false := hd 4 (by kernel_rfl)
                have g13 : f 13 = undef := hd 13 (by kernel_rfl)
                refine wpOp_list rfl ?_
                simp only [tmOf, putAll, List.map_cons, List.map_nil, List.setIfInBounds_toArray, List.set_cons_zero, List.set_cons_succ]
                go_wp2
                simp [upd, g4, g13, Below.refl]
              · simp only [List.length_cons, List.length_nil] at hx; omega
            · rintro f ww hS hd
              have gl : f 14 = .bool false := hd 14 (by decide)
              simp only [tmOf, putAll, List.map_cons, List.map_nil, List.setIfInBounds_toArray, List.set_cons_zero, List.set_cons_succ]
              refine ‹∀ (a' : Act) (w' : World), Met _ a' w' → _› _ _ ?_
              go_meet
              case rel => exact ⟨gl, hS⟩
          case rest =>
          obtain ⟨rfl, hby⟩ := hcut
          have HQY := Lib.hid (HQ.out.below hby)
          have HBY := Lib.hid (HBX.out.trans (hby.mono HBX.out.size))
          clear HQ HBX hby
          generalize wc = wy at *
          go_upto_region 8 with fail
          go_cut [44] from 30 to 44 (fun vv wn => vv = .bool false ∧ Below wy.heap.size wy wn)
          case first =>
            refine wp_region_pure' (fun ix => match ix with | 0 => .int .i64 (k : Int) | 1 => .slice p3 k c3 | 2 => .int .i64 (k : Int) | 3 => .bool false | 4 => .bool false | 5 => undef | 6 => undef | 7 => undef | 8 => undef | 9 => undef | 10 => undef | 11 => undef | 12 => undef | 13 => undef | _ => .bool false) (by kernel_rfl) (by kernel_rfl) ?_ ?_
            · rintro ix hx f ww hS hd
              rcases ix with _ | _ | _ | _ | _ | _ | _ | _ | _ | _ | _ | _ | _ | _ | _ | ix
              · refine wpOp_list rfl ?_
                simp only [tmOf, putAll, List.map_cons, List.map_nil, List.setIfInBounds_toArray, List.set_cons_zero, List.set_cons_succ]
                go_wp2
                simp [upd, Below.refl]
              · refine wpOp_list rfl ?_
                simp only [tmOf, putAll, List.map_cons, List.map_nil, List.setIfInBounds_toArray, List.set_cons_zero, List.set_cons_succ]
                go_wp2
                simp [upd, Below.refl]
              · have g1 : f 1 = .slice p3 k c3 := hd 1 (by kernel_rfl)
                refine wpOp_list rfl ?_
                simp only [tmOf, putAll, List.map_cons, List.map_nil, List.setIfInBounds_toArray, List.set_cons_zero, List.set_cons_succ]
                go_wp2
                simp [upd, g1, Below.refl]
              · have g0 : f 0 = .int .i64 (k : Int) := hd 0 (by kernel_rfl)
                have g2 : f 2 = .int .i64 (k : Int) := hd 2 (by kernel_rfl)
                refine wpOp_list rfl ?_
                simp only [tmOf, putAll, List.map_cons, List.map_nil, List.setIfInBounds_toArray, List.set_cons_zero, List.set_cons_succ]
                go_wp2
                simp [upd, g0, g2, Below.refl]
              · have g3 : f 3 = .bool false := hd 3 (by kernel_rfl)
                refine wpOp_list rfl ?_
                simp only [tmOf, putAll, List.map_cons, List.map_nil, List.setIfInBounds_toArray, List.set_cons_zero, List.set_cons_succ]
                go_wp2
                simp [upd, g3, Below.refl]
              · have g4 : f 4 = .bool false := hd 4 (by kernel_rfl)
                simp only [tmOf, putAll, List.map_cons, List.map_nil, List.setIfInBounds_toArray, List.set_cons_zero, List.set_cons_succ]
                refine wpOp_off rfl (unwanted_of (b := false) rfl rfl rfl (congrArg some g4)) ?_
                simp [tmOf, Act.put, putAll, upd, Below.refl]
              · have g4 : f 4 = .bool false := hd 4 (by kernel_rfl)
                simp only [tmOf, putAll, List.map_cons, List.map_nil, List.setIfInBounds_toArray, List.set_cons_zero, List.set_cons_succ]
                refine wpOp_off rfl (unwanted_of (b := false) rfl rfl rfl (congrArg some g4)) ?_
                simp [tmOf, Act.put, putAll, upd, Below.refl]
              · have g4 : f 4 = .bool false := hd 4 (by kernel_rfl)
                simp only [tmOf, putAll, List.map_cons, List.map_nil, List.setIfInBounds_toArray, List.set_cons_zero, List.set_cons_succ]
                refine wpOp_off rfl (unwanted_of (b := false) rfl rfl rfl (congrArg some g4)) ?_
                simp [tmOf, Act.put, putAll, upd, Below.refl]
              · have g4 : f 4 = .bool false := hd 4 (by kernel_rfl)
                simp only [tmOf, putAll, List.map_cons, List.map_nil, List.setIfInBounds_toArray, List.set_cons_zero, List.set_cons_succ]
                refine wpOp_off rfl (unwanted_of (b := false) rfl rfl rfl (congrArg some g4)) ?_
                simp [tmOf, Act.put, putAll, upd, Below.refl]
              · have g4 : f 4 = .bool false := hd 4 (by kernel_rfl)
                simp only [tmOf, putAll, List.map_cons, List.map_nil, List.setIfInBounds_toArray, List.set_cons_zero, List.set_cons_succ]
                refine wpOp_off rfl (unwanted_of (b := false) rfl rfl rfl (congrArg some g4)) ?_
                simp [tmOf, Act.put, putAll, upd, Below.refl]
              · have g4 : f 4 = .bool false := hd 4 (by kernel_rfl)
                simp only [tmOf, putAll, List.map_cons, List.map_nil, List.setIfInBounds_toArray, List.set_cons_zero, List.set_cons_succ]
                refine wpOp_off rfl (unwanted_of (b := false) rfl rfl rfl (congrArg some g4)) ?_
                simp [tmOf, Act.put, putAll, upd, Below.refl]
              · have g4 : f 4 = .bool false := hd 4 (by kernel_rfl)
                simp only [tmOf, putAll, List.map_cons, List.map_nil, List.setIfInBounds_toArray, List.set_cons_zero, List.set_cons_succ]
                refine wpOp_off rfl (unwanted_of (b := false) rfl rfl rfl (congrArg some g4)) ?_
                simp [tmOf, Act.put, putAll, upd, Below.refl]
              · have g4 : f 4 = .bool false := hd 4 (by kernel_rfl)
                simp only [tmOf, putAll, List.map_cons, List.map_nil, List.setIfInBounds_toArray, List.set_cons_zero, List.set_cons_succ]
                refine wpOp_off rfl (unwanted_of (b := false) rfl rfl rfl (congrArg some g4)) ?_
                simp [tmOf, Act.put, putAll, upd, Below.refl]
              · have g4 : f 4 = .bool false := hd 4 (by kernel_rfl)
                simp only [tmOf, putAll, List.map_cons, List.map_nil, List.setIfInBounds_toArray, List.set_cons_zero, List.set_cons_succ]
                refine wpOp_off rfl (unwanted_of (b := false) rfl rfl rfl (congrArg some g4)) ?_
                simp [tmOf, Act.put, putAll, upd, Below.refl]
              · have g4 : f 4 = .bool false := hd 4 (by kernel_rfl)
                have g13 : f 13 = undef := hd 13 (by kernel_rfl)
                refine wpOp_list rfl ?_
                simp only [tmOf, putAll, List.map_cons, List.map_nil, List.setIfInBounds_toArray, List.set_cons_zero, List.set_cons_succ]
                go_wp2
                simp [upd, g4, g13, Below.refl]
              · simp only [List.length_cons, List.length_nil] at hx; omega
            · rintro f ww hS hd
              have gl : f 14 = .bool false := hd 14 (by decide)
              simp only [tmOf, putAll, List.map_cons, List.map_nil, List.setIfInBounds_toArray, List.set_cons_zero, List.set_cons_succ]
              refine ‹∀ (a' : Act) (w' : World), Met _ a' w' → _› _ _ ?_
              go_meet
              case rel => exact ⟨gl, hS⟩
          case rest =>
          obtain ⟨rfl, hbz⟩ := hcut
          have HQZ := Lib.hid (HQY.out.below hbz)
          have HBZ := Lib.hid (HBY.out.trans (hbz.mono HBY.out.size))
          clear HQY HBY hbz
          generalize wc = wz at *
          have HPUT := Lib.hid (sortIs_put ordP (q := q) (k := k) (fun _ _ => trivial) trivial HS.out (by rw [HM.out.1]; omega) HLT.out (fun y hy => by
            rw [List.getElem?_eq_none (by rw [HM.out.1]; omega)] at hy
            cases hy))
          rcases HFM.out with ⟨h1, rfl, rfl, rfl⟩ | ⟨g, rfl, hg, hmc, hrow⟩
          · subst h1
            obtain ⟨hbl1, q0_, q1_, q2_, q3_⟩ := HQZ.out
            go_upto_region 12 with (at_builtin; refine push1P_law rfl _ _ rfl rfl (GrVP.nil wz wz.heap.size) q rfl (by decide) (Nat.le_refl _) ?_; intro v2 w2 hg2 hb2)
            rcases hg2.row with ⟨_, he⟩ | ⟨g, c, rfl, hg, hc, hrow⟩
            · simp at he
            · have hbA := HBZ.out.trans (hb2.mono HBZ.out.size)
              have hbF := hb.trans (hbA.mono hb.size)
              have HGF := Lib.hid (hg2.mono (base' := w.heap.size) (Nat.le_trans hb.size HBZ.out.size))
              have HBF := Lib.hid hbF
              have hc1 : 1 ≤ c := hc
              clear hg2 hb2 hbA hbF hrow hc hg q0_ q1_ q2_ q3_ hbl1
              go_wp2_with fail
              go_roundg (n - (i + 1))
              case measure => rw [HGK.out]; omega
              case rel => exact ⟨i + 1, 1, c, some ⟨g, 0, none⟩, [q], by omega, rfl, by go_num, rfl, ⟨rfl, by omega⟩, HGF.out, by rw [HTK.out]; exact HPUT.out, HBF.out⟩
          · have HRZ := Lib.hid (hrow.below HBZ.out)
            have HGC := Lib.hid (And.intro hg hmc)
            clear hrow hg hmc HFM
            have hkc : (k : Int) ≤ (c3 : Int) := by have := HGC.out.2; omega
            have hkm0 : (k : Int) ≤ (k : Int) := by omega
            have htl : (out.take k).length = k := by rw [List.length_take, HM.out.1]; omega
            have hrt : RdV wz (some ⟨g, 0, none⟩) (out.take k) := (HRZ.out.take k).rdV
            have HTL := Lib.hid htl
            have HKB := Lib.hid (show k ≤ 100000 by have := HMN.out; omega)
            have hdl : (out.drop k).length = 0 := by rw [List.length_drop]; have := HM.out.1; omega
            have HDL := Lib.hid hdl
            clear hdl
            go_upto_region 11 with (at_builtin; refine pushVP_law rfl _ _ rfl rfl (GrVP.nil wz wz.heap.size) htl hrt rfl (by decide) (Nat.le_trans HKB.out (by decide)) (Nat.le_refl _) ?_; intro v1 w1 hg1 hb1)
            rw [List.nil_append] at hg1
            obtain ⟨hbl1, q0_, q1_, q2_, q3_⟩ := HQZ.out.below hb1
            have HQ1 := Lib.hid (HQZ.out.below hb1)
            clear hrt htl
            go_upto_region 12 with (at_builtin; refine push1P_law rfl _ _ rfl rfl hg1 q rfl (by rw [HTL.out]; exact Nat.le_trans HKB.out (by decide)) hb1.size ?_; intro v2 w2 hg2 hb2)
            have hb12 := hb1.trans hb2
            clear hb1 hb2 hg1 q0_ q1_ q2_ q3_ hbl1
            have hrd : RdV w2 (some ⟨g, k * 4, none⟩) (out.drop k) := RdV.drop (HRZ.out.below hb12) k
            have hll : (out.take k ++ [q]).length ≤ 1000000000 := by rw [List.length_append, HTL.out]; have := HKB.out; simp; omega
            have HDL2 := HDL.out
            have hml : 0 ≤ 1000000000 := by have := HMN.out; omega
            by_cases hkc3 : k = c3
            · have hdn : out.drop k = [] := List.drop_eq_nil_of_le (by rw [HM.out.1]; have := HGC.out.2; omega)
              have HB12 := Lib.hid hb12
              have HRD : Hid (RdV w2 (some ⟨g, 0, none⟩) (out.drop k)) := Lib.hid (by rw [hdn]; exact RdV.none)
              have HRD2 := Lib.hid hrd
              clear hdn hrd
              go_wp2_with (at_builtin; (first | refine pushVP_law rfl _ _ rfl rfl hg2 HDL2 HRD.out rfl hll hml hb12.size ?_ | refine pushVP_law rfl _ _ rfl rfl hg2 HDL2 HRD2.out rfl hll hml hb12.size ?_); intro v3 w3 hg3 hb3)
              have hb13 := HB12.out.trans hb3
              have hbA := HBZ.out.trans (hb13.mono HBZ.out.size)
              have hbF := hb.trans (hbA.mono hb.size)
              obtain ⟨pf, cf, hvf, _, _⟩ := hg3.rd
              have hlf : (out.take k ++ [q] ++ out.drop k).length = k + 1 := by
                rw [List.length_append, List.length_append, HTL.out, HDL.out]; simp <;> omega
              rw [hlf] at hvf
              have HGF := Lib.hid (hg3.mono (base' := w.heap.size) (Nat.le_trans hb.size HBZ.out.size))
              have HBF := Lib.hid hbF
              have HLF := Lib.hid hlf
              have HVF := Lib.hid hvf
              clear hg3 hb3 hb13 hbA hbF hlf hvf hb12 hg2 hll hml HDL2
              go_wp2_with fail
              go_roundg (n - (i + 1))
              case measure => rw [HGK.out]; omega
              case rel => exact ⟨i + 1, k + 1, cf, pf, _, by omega, rfl, by go_num, HVF.out, ⟨HLF.out, by have := HM.out.2; omega⟩, HGF.out, by rw [HTK.out]; exact HPUT.out, HBF.out⟩
            · have hkc4 : (k : Int) < (c3 : Int) := by have := HGC.out.2; omega
              have hkc5 : ¬ (c3 - k = 0) := by have := HGC.out.2; omega
              have HB12 := Lib.hid hb12
              have HRD := Lib.hid hrd
              clear hrd
              go_wp2_with (at_builtin; refine pushVP_law rfl _ _ rfl rfl hg2 HDL2 HRD.out rfl hll hml hb12.size ?_; intro v3 w3 hg3 hb3)
              have hb13 := HB12.out.trans hb3
              have hbA := HBZ.out.trans (hb13.mono HBZ.out.size)
              have hbF := hb.trans (hbA.mono hb.size)
              obtain ⟨pf, cf, hvf, _, _⟩ := hg3.rd
              have hlf : (out.take k ++ [q] ++ out.drop k).length = k + 1 := by
                rw [List.length_append, List.length_append, HTL.out, HDL.out]; simp <;> omega
              rw [hlf] at hvf
              have HGF := Lib.hid (hg3.mono (base' := w.heap.size) (Nat.le_trans hb.size HBZ.out.size))
              have HBF := Lib.hid hbF
              have HLF := Lib.hid hlf
              have HVF := Lib.hid hvf
              clear hg3 hb3 hb13 hbA hbF hlf hvf hb12 hg2 hll hml HDL2
              go_wp2_with fail
              go_roundg (n - (i + 1))
              case measure => rw [HGK.out]; omega
              case rel => exact ⟨i + 1, k + 1, cf, pf, _, by omega, rfl, by go_num, HVF.out, ⟨HLF.out, by have := HM.out.2; omega⟩, HGF.out, by rw [HTK.out]; exact HPUT.out, HBF.out⟩
    · have hii : ¬ (i : Int) < (n : Int) := by omega
      obtain rfl : i = n := by omega
      have htk : l.take i = l := List.take_of_length_le (by rw [HL.out]; exact Nat.le_refl _)
      have hs := HS.out
      rw [htk] at hs
      have HSS := Lib.hid hs
      obtain ⟨pf, cf, hvf, _, hrf⟩ := HG.out.rd
      rw [HM.out.1] at hvf
      injection hvf with e1 e2 e3
      subst e1 e3
      have HRF := Lib.hid hrf
      clear hrf htk hs
      go_wp2_with fail
      go_ret
      exact ⟨_, c3, out, by rw [HM.out.1]; rfl, HRF.out, HSS.out, hb⟩

end Go.Proofs.Ythdhakpmhndbfaa
