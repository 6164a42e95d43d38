/-
  Package lists: Sorted at slices of spokeshave/api.Point; Package line: the points in which planes meet a line; Package line: the points in which planes meet a line: without an error; A law's comparison of two lists of points.
-/
import Derived.Shelf.SlSortCmp.NoneTotal
import Derived.RangeFuncNested
import Derived.Test.YtimkeblcdodfmaaGreatK1
import Derived.Test.YtimkeblcdodfmaaGreatK2
import Derived.Test.YtimkeblcdodfmaaGreatK3
import Derived.Test.YtimkeblcdodfmaaGreatK4
import Derived.Test.YtimkeblcdodfmaaGreatK5
import Derived.Test.YtimkeblcdodfmaaGreatK6
import Derived.Test.YtimkeblcdodfmaaGreatK7
import Derived.Test.YtimkeblcdodfmaaGreatK8
import Derived.Test.YtimkeblcdodfmaaGreatK9
import Derived.Test.YtimkeblcdodfmaaGreatK10
import Derived.Test.YtimkeblcdodfmaaGreatK11
import Derived.Test.YtimkeblcdodfmaaGreatK16
import Derived.Test.YtimkeblcdodfmaaGreatK17
import Derived.Test.YtimkeblcdodfmaaGreatK18
import Derived.Test.YtimkeblcdodfmaaGreatK19
import Derived.Test.YtimkeblcdodfmaaGreatK20
import Derived.Test.YtimkeblcdodfmaaGreatK21
import Derived.Test.YtimkeblcdodfmaaGreatK22
namespace Go.Proofs.YtimkeblcdodfmaaGreat
open Go.RowKit Go.Shelf
attribute [local go_sem] Oper.semAt_some

theorem sortQ_nil (cap : Nat) (fv : Value) (w : World) : Calls Tryz.prog 94 #[.slice none 0 cap, fv] w fun e w' => e = .returned (.tuple #[]) ∧ w' = w :=
  Go.Proofs.AnyF.slices_SortFunc_none sortLQ none cap fv w
theorem sortQ_any (Ok : V4 → Prop) (q0 : V4) (h0 : Ok q0) (cf : V4 → V4 → Int) (ho : Ord4 Ok cf) (g : Nat) (cb : Array Value) (B cap : Nat) (l : List V4) (w : World) (hl : ∀ q ∈ l, Ok q) (eg : ∀ args w, (callFunc g args).run Tryz.prog w = .ok (.enter g args) w)
    (hcmp : ∀ W, w.grownBy W (some B) → ∀ x y, Ok x → Ok y → Calls Tryz.prog g (#[.agg #[.int .i64 x.a, .int .i64 x.b, .int .i64 x.c, .int .i64 x.d], .agg #[.int .i64 y.a, .int .i64 y.b, .int .i64 y.c, .int .i64 y.d]] ++ cb) W fun e w' => e = .returned (.int .i64 (cf x y)) ∧ Below W.heap.size W w')
    (hr : RowV w B l) (hn : l.length < 1000000000) :
    Calls Tryz.prog 94 #[.slice (some ⟨B, 0, none⟩) l.length cap, .func (.func g) #[] cb] w fun e w' => e = .returned (.tuple #[]) ∧ ∃ l' : List V4, l'.Perm l ∧ (∀ (i j : Nat) (hi : i < j) (hj : j < l'.length), ¬ cf l'[j] l'[i] < 0) ∧ RowV w' B l' ∧ w.grownBy w' (some B) :=
  sortV_any sortLQ Tryz.isAgg41 Tryz.sizeOf41 q0 h0 cf ho.irr ho.tr (fun x y z hx hy hz => ho.nt x y z hx hy hz) g cb B cap l w hl eg hcmp hr hn

set_option maxRecDepth 100000 in
set_option maxHeartbeats 8000000 in
theorem compactQ_nil (w : World) : Calls Tryz.prog 95 #[.slice none 0 0] w fun e w' => e = .returned (.slice none 0 0) ∧ w' = w := by
  go_enter Tryz.func95, Tryz.ntmps95
  go_wp2_with fail
  go_ret
  exact ⟨rfl, rfl⟩

set_option maxRecDepth 100000 in
set_option maxHeartbeats 8000000 in
theorem sortedQ_any (Ok : V4 → Prop) (q0 : V4) (h0 : Ok q0) (cf : V4 → V4 → Int) (ho : Ord4 Ok cf) (g : Nat) (cb : Array Value) (p : Option Addr) (n cap : Nat) (l : List V4) (w : World) (hl : l.length = n) (hn : n ≤ 100000) (hok : ∀ q ∈ l, Ok q) (hr : RdV w p l)
    (eg : ∀ args w, (callFunc g args).run Tryz.prog w = .ok (.enter g args) w)
    (hcmp : ∀ W, Below w.heap.size w W → ∀ x y, Ok x → Ok y → Calls Tryz.prog g (#[.agg #[.int .i64 x.a, .int .i64 x.b, .int .i64 x.c, .int .i64 x.d], .agg #[.int .i64 y.a, .int .i64 y.b, .int .i64 y.c, .int .i64 y.d]] ++ cb) W fun e w' => e = .returned (.int .i64 (cf x y)) ∧ Below W.heap.size W w') :
    Calls Tryz.prog 67 #[.slice p n cap, .func (.func g) #[] cb] w fun e w' => ∃ p' c' l', e = .returned (.slice p' (List.length l') c') ∧ RdV w' p' l' ∧ SortIs cf l l' ∧ Below w.heap.size w w' := by
  by_cases hn0 : n = 0
  · subst hn0
    obtain rfl := List.length_eq_zero_iff.1 hl
    have HSN := Lib.hid (fun W => sortQ_nil 0 (.func (.func g) #[] cb) W)
    have HCN := Lib.hid (fun W => compactQ_nil W)
    clear hcmp hr hl hok eg
    go_enter Tryz.func67, Tryz.ntmps67
    cases p with
    | none =>
      go_wp2_with fail
      refine (HSN.out _).mono ?_
      rintro e w1 ⟨rfl, rfl⟩
      go_wp2_with fail
      refine (HCN.out _).mono ?_
      rintro e w2 ⟨rfl, rfl⟩
      go_wp2_with fail
      go_ret
      exact ⟨none, 0, [], rfl, fun i q hi => by simp at hi, ⟨List.Pairwise.nil, fun _ => Iff.rfl⟩, Below.refl _ _⟩
    | some a =>
      go_wp2_with fail
      refine (HSN.out _).mono ?_
      rintro e w1 ⟨rfl, rfl⟩
      go_wp2_with fail
      refine (HCN.out _).mono ?_
      rintro e w2 ⟨rfl, rfl⟩
      go_wp2_with fail
      go_ret
      exact ⟨none, 0, [], rfl, fun i q hi => by simp at hi, ⟨List.Pairwise.nil, fun _ => Iff.rfl⟩, Below.refl _ _⟩
  · obtain ⟨b, off, rfl⟩ : ∃ b off, p = some ⟨b, off, none⟩ := by
      obtain ⟨b, off, e, _⟩ := hr 0 l[0] (List.getElem?_eq_getElem (by omega))
      exact ⟨b, off, e⟩
    have HC := Lib.hid hcmp
    have HOK := Lib.hid hok
    have HNL := Lib.hid (show (([] : List V4) ++ l).length = n from hl)
    clear hcmp hok
    go_enter Tryz.func67, Tryz.ntmps67
    go_wp2_with (at_builtin; refine pushVQ_law rfl _ _ rfl rfl (GrVQ.nil w w.heap.size) hl hr rfl (by decide) (by omega) (Nat.le_refl _) ?_; intro v' w' hgr hb1)
    rw [List.nil_append] at hgr
    rcases hgr.row with ⟨_, h⟩ | ⟨G, c, rfl, hG, hc, hrow⟩
    · exact absurd (by rw [h] at hl; exact hl.symm) hn0
    have hs := sortQ_any Ok q0 h0 cf ho g cb G c l w' HOK.out eg (fun W hW x y hx hy => HC.out W (hb1.trans (gB_own hW hb1.size hG)) x y hx hy) hrow (by omega)
    rw [hl] at hs ⊢
    have HS := Lib.hid hs
    clear hs hgr hrow eg hr
    go_wp2_with fail
    refine HS.out.mono ?_
    rintro e w2 ⟨rfl, l2, hp, hso, hr2, hg2⟩
    have hl2 : l2.length = n := by rw [hp.length_eq]; exact hl
    have hb2 := hb1.trans (gB_own hg2 hb1.size hG)
    have hk := compactQ_any G n c l2 w2 hl2 hr2 (by omega) (by rw [← hl]; exact hc)
    have hsi := sortIs_kept ho hp HOK.out (fun i j hi hj => by have := hso i j hi hj; omega)
    rw [hl2] at hsi
    have HSI := Lib.hid hsi
    have HK := Lib.hid hk
    clear hk hsi hso hp HS HC hr2
    go_wp2_with fail
    refine HK.out.mono ?_
    rintro e w3 ⟨rfl, hr3, hg3⟩
    have HR3 := Lib.hid hr3.rdV
    obtain ⟨kl, hkl⟩ : ∃ k, (keptV l2 n).length = k := ⟨_, rfl⟩
    have hb3 := hb2.trans (gB_own hg3 hb2.size hG)
    have HB3 := Lib.hid hb3
    have HKL := Lib.hid hkl
    rw [hkl]
    clear hb3 hr3 hg3 hkl HK
    go_wp2_with fail
    go_ret
    exact ⟨_, c, keptV l2 n, by rw [HKL.out]; rfl, HR3.out, HSI.out, HB3.out⟩

end Go.Proofs.YtimkeblcdodfmaaGreat

namespace Go.Proofs.YtimkeblcdodfmaaGreat
open Go.RowKit Go.Shelf
attribute [local go_sem] Oper.semAt_some

/-- The error of a line and a list. -/
def ptsE (p q : V4) (rs : List V4) : Int := firstE [errE (decide (RightQ p) && decide (RightQ q)) 30, errE (rs.all fun q => decide (RightP q.a q.b q.c q.d)) 30, crossE p q, errE (decide ((rs.length : Int) ≤ 1000)) 2]
theorem ptsE_good {p q : V4} {rs : List V4} (h : ptsE p q rs = 0) : RightQ p ∧ RightQ q ∧ (∀ r ∈ rs, RightQ r) ∧ crsV (nrm p) (nrm q) ≠ ⟨0, 0, 0⟩ ∧ rs.length ≤ 1000 := by
  unfold ptsE at h
  have h1 := firstE_cons0 h
  have h2 := firstE_cons0 h1.2
  have h3 := firstE_cons0 h2.2
  have h4 := firstE_cons0 h3.2
  have hb := errE_zero (by decide) h1.1
  rw [Bool.and_eq_true, decide_eq_true_eq, decide_eq_true_eq] at hb
  refine ⟨hb.1, hb.2, fun r hr => ?_, ?_, ?_⟩
  · have := List.all_eq_true.1 (errE_zero (by decide) h2.1) r hr
    exact of_decide_eq_true this
  · rw [crossE_zero hb.1 hb.2] at h3
    exact of_decide_eq_true (errE_zero (by decide) h3.1)
  · have := of_decide_eq_true (errE_zero (by decide) h4.1)
    omega
/-- There is a right point on each line. -/
theorem onL_some {p q : V4} (hp : RightQ p) (hq : RightQ q) (hn : crsV (nrm p) (nrm q) ≠ ⟨0, 0, 0⟩) : ∃ x, onL p q x := by
  have go : ∀ r : V4, RightQ r → meetW p q r ≠ 0 → ∃ x, onL p q x := fun r hr hw => ⟨_, (meet_good hp hq hr hw).1, (meet_good hp hq hr hw).2.1, (meet_good hp hq hr hw).2.2.1⟩
  have r1 : RightQ ⟨1, 0, 0, 0⟩ := by decide
  have r2 : RightQ ⟨0, 1, 0, 0⟩ := by decide
  have r3 : RightQ ⟨0, 0, 1, 0⟩ := by decide
  by_cases h1 : meetW p q ⟨1, 0, 0, 0⟩ = 0
  · by_cases h2 : meetW p q ⟨0, 1, 0, 0⟩ = 0
    · by_cases h3 : meetW p q ⟨0, 0, 1, 0⟩ = 0
      · exfalso
        apply hn
        unfold meetW minorZ at h1 h2 h3
        unfold crsV nrm
        simp only [V3.mk.injEq]
        refine ⟨?_, ?_, ?_⟩ <;> grind
      · exact go _ r3 h3
    · exact go _ r2 h2
  · exact go _ r1 h1
theorem meetsL_on {p q : V4} {rs : List V4} (hp : RightQ p) (hq : RightQ q) (hr : ∀ r ∈ rs, RightQ r) : ∀ x ∈ meetsL p q rs, onL p q x := by
  intro x hx
  unfold meetsL at hx
  obtain ⟨r, hrm, he⟩ := List.mem_filterMap.1 hx
  by_cases h0 : meetE p q r = 0
  · rw [if_pos h0] at he
    have hR := hr r hrm
    have hw : meetW p q r ≠ 0 := fun hw => by
      rw [(meet_none hp hq hR hw).1] at h0; exact absurd h0 (by decide)
    have hs := (meet_some hp hq hR hw).2
    have hg := meet_good hp hq hR hw
    rw [← hs] at hg
    cases he
    exact ⟨hg.1, hg.2.1, hg.2.2.1⟩
  · rw [if_neg h0] at he; cases he
theorem GrVQ.heap {W W' : World} {base : Nat} {v : Value} {l : List V4} (h : GrVQ W base v l) (hk : ∀ g, base ≤ g → ∀ cur, W.heap[g]? = some (.cells cur 41 (0, 0)) → W'.heap[g]? = W.heap[g]?) : GrVQ W' base v l := by
  unfold GrVQ OwnQ World.ownsRow at h ⊢
  obtain ⟨⟨h1, h2⟩, _⟩ := h
  refine ⟨⟨h1, ?_⟩, fun _ _ _ _ _ _ => trivial⟩
  rcases h2 with h2 | ⟨g, cap, cur, e1, hb, hg, h3⟩
  · exact .inl h2
  · exact .inr ⟨g, cap, cur, e1, hb, (hk g hb cur hg).trans hg, h3⟩
theorem GrVQ.own {W W' : World} {base : Nat} {v : Value} {l : List V4} {row : Option Nat} (h : GrVQ W base v l) (hg : W.grownBy W' row) (hrow : ∀ r, row = some r → ∃ o : Obj, W.heap[r]? = some o ∧ o.isCells = false) : GrVQ W' base v l :=
  h.heap fun g _ cur hc => grownBy_keeps_cells hg hrow hc rfl
theorem GrVQ.set {W : World} {base : Nat} {v : Value} {l : List V4} (h : GrVQ W base v l) (a : Addr) (u : Value) (ha : a.block < base) : GrVQ (W.setCell a u) base v l :=
  h.heap fun g hg cur _ => Below.heap_setCell _ _ _ _ (by omega)
theorem RdV.putObj {W : World} {p : Option Addr} {l : List V4} (h : RdV W p l) {D : Nat} {o : Option (List Deferred)} (o' : Obj) (hD : W.heap[D]? = some (.deferred o)) : RdV (W.putObj D o') p l := by
  intro i q hi
  obtain ⟨b, off, e, hlt, h0, h1, h2, h3⟩ := h i q hi
  have hne : b ≠ D := by
    rintro rfl
    simp [World.cell?, hD] at h0
  have hg := grownBy_putObj' W D o'
  have hk : KeepsAt (fun x => x = b) W (W.putObj D o') := fun x hx => by
    subst hx; exact hg.block x hlt (fun e => by cases e; exact hne rfl)
  exact ⟨b, off, e, Nat.lt_of_lt_of_le hlt hg.size, (hk.cell (p := ⟨b, _, none⟩) rfl).trans h0, (hk.cell (p := ⟨b, _, none⟩) rfl).trans h1, (hk.cell (p := ⟨b, _, none⟩) rfl).trans h2, (hk.cell (p := ⟨b, _, none⟩) rfl).trans h3⟩
/-- append(row, q) inside a round: also what it keeps. -/
theorem push1Q_lawK {ops : Array Oper} {Q : Exit → Act → World → Prop} {o : Oper} {rest : List Oper} {a : Act} {W : World} (hgd : o.guard = none) (s x : Operand)
    (ho : o.op = .call { callee := .builtin .append, args := #[s, x], argTypes := #[52, 52] }) {base : Nat} {v : Value} {l : List V4} (hs : a.eval s = v) (h : GrVQ W base v l) (q : V4)
    (hx : a.eval x = .slice (some ⟨W.heap.size, 0, none⟩) 1 1) (hl : l.length ≤ 1000000000) (hbase : base ≤ W.heap.size)
    (k : ∀ v' w', GrVQ w' base v' (l ++ [q]) → Below base W w' → KeepsOthers W w' → wpList Tryz.prog ops Q rest (a.put o.dst v') w') : wpList Tryz.prog ops Q (o :: rest) a (W.alloc (.cells #[.int .i64 q.a, .int .i64 q.b, .int .i64 q.c, .int .i64 q.d] 41)) := by
  obtain ⟨i0, hi, hz0, hz1, hz2⟩ := info_parts Tryz.infoVQ
  have hbA : Below W.heap.size W (W.alloc (.cells #[.int .i64 q.a, .int .i64 q.b, .int .i64 q.c, .int .i64 q.d] 41)) := (Below.refl _ _).alloc (Nat.le_refl _) _
  have h' := h.below hbA
  have hr := planes1 W q.a q.b q.c q.d 41
  refine wpList_append_q hgd s x 52 ho base 41 i0 (.agg #[.int .i64 0, .int .i64 0, .int .i64 0, .int .i64 0]) 4 32 Tryz.underlying52 hi hz0 hz1 hz2 rfl (fun _ => True) (fun _ _ => trivial) v l.length (flatV l) hs h' ⟨W.heap.size, 0, none⟩ 1 1 (flatV [q]) hx (flatV_len [q])
    (by intro j u hj; rw [Go.WideShapes.add_plain]; exact hr.cells j u hj) (flatV_one [q]) (fun _ _ => trivial) (by unfold maxLen; omega) (by omega) (by rw [World.size_alloc]; omega) ?_
  intro v' w' h3 hg
  have hb := OwnQ.base_below h' hg (by rw [World.size_alloc]; omega)
  refine k v' w' ?_ (((Below.refl _ _).alloc hbase _).trans hb) ((KeepsOthers.alloc _ _).trans (KeepsOthers.of_grownBy hg fun j o e hj => ?_))
  · unfold GrVQ
    rw [List.length_append, flatV_append]; exact h3
  · rcases h'.1.2 with ⟨rfl, _⟩ | ⟨g, cap, cur, rfl, _, hgc, _⟩
    · simp [Value.ownBlock] at e
    · simp only [Value.ownBlock, Option.some.injEq] at e
      subst e
      rw [hgc] at hj; cases hj; rfl

end Go.Proofs.YtimkeblcdodfmaaGreat

namespace Go.Proofs.YtimkeblcdodfmaaGreat
open Go.RowKit Go.Shelf
attribute [local go_sem] Oper.semAt_some

set_option maxRecDepth 100000 in
set_option maxHeartbeats 8000000 in
theorem pointsApi_good (p q : V4) (a : Option Addr) (n c : Nat) (rs : List V4) (w : World) (hp : InV p) (hq : InV q) (hrs : ∀ x ∈ rs, InV x) (hl : rs.length = n) (hn : n ≤ 1000000000) (hr : RdV w a rs) (hE0 : ptsE p q rs = 0) :
    Calls Tryz.prog 29 #[.agg #[.int .i64 p.a, .int .i64 p.b, .int .i64 p.c, .int .i64 p.d], .agg #[.int .i64 q.a, .int .i64 q.b, .int .i64 q.c, .int .i64 q.d], .slice a n c] w fun e w' => (∃ p' c' l', e = .returned (.tuple #[.slice p' (List.length l') c', .int .i64 0]) ∧ RdV w' p' l' ∧ SortIs (fun a b => sgnI (leadZ (dirV p q) a b)) (meetsL p q rs) l') ∧ Below w.heap.size w w' := by
  obtain ⟨w1, hw1⟩ : ∃ w1, ((w.alloc (.cells #[.int .i64 p.a, .int .i64 p.b, .int .i64 p.c, .int .i64 p.d] 23)).alloc (.cells #[.int .i64 q.a, .int .i64 q.b, .int .i64 q.c, .int .i64 q.d] 23)) = w1 := ⟨_, rfl⟩
  have hb1 : Below w.heap.size w w1 := by rw [← hw1]; exact bw2 w _ _
  have k0 : Blk w1 (w.heap.size) #[.int .i64 p.a, .int .i64 p.b, .int .i64 p.c, .int .i64 p.d] 23 := by rw [← hw1]; exact ((Blk.new w _ _).alloc _)
  have k1 : Blk w1 (w.heap.size + 1) #[.int .i64 q.a, .int .i64 q.b, .int .i64 q.c, .int .i64 q.d] 23 := by rw [← hw1]; exact (Blk.new' _ _ _ (by simp))
  have hpl : ∀ b W, RdV W (some ⟨b, 0, none⟩) [p, q] → Calls Tryz.prog 46 #[.slice (some ⟨b, 0, none⟩) 2 2] W fun e w' => ∃ v, e = .returned v ∧ ChkIs w' v (errE ((decide (RightQ p) && decide (RightQ q))) 30) ∧ Below W.heap.size W w' := fun b W hR => by
    have h := planes_any (some ⟨b, 0, none⟩) 2 2 [p, q] W rfl (by decide) hR (fun x hx => by
      have hx' : x = p ∨ x = q := by simpa using hx
      rcases hx' with rfl | rfl
      · exact hp
      · exact hq)
    simpa [RightQ] using h
  have hpr := fun W (hR : RdV W a rs) => planes_any a n c rs W hl hn hR hrs
  have hcr := fun W => crossing_any p q W
  have hmo := fun W => most_any 1000 (n : Int) W
  have hE : firstE [errE ((decide (RightQ p) && decide (RightQ q))) 30, errE (rs.all fun q => decide (RightP q.a q.b q.c q.d)) 30, crossE p q, errE (decide ((n : Int) ≤ 1000)) 2] = ptsE p q rs := by unfold ptsE; rw [hl]
  obtain ⟨rp, hrp⟩ : ∃ e0, errE ((decide (RightQ p) && decide (RightQ q))) 30 = e0 := ⟨_, rfl⟩
  obtain ⟨rl, hrl⟩ : ∃ e0, errE (rs.all fun q => decide (RightP q.a q.b q.c q.d)) 30 = e0 := ⟨_, rfl⟩
  obtain ⟨rc, hrc⟩ : ∃ e0, crossE p q = e0 := ⟨_, rfl⟩
  obtain ⟨rm, hrm⟩ : ∃ e0, errE (decide ((n : Int) ≤ 1000)) 2 = e0 := ⟨_, rfl⟩
  rw [hrp] at hpl
  simp only [hrl] at hpr
  simp only [hrc] at hcr
  simp only [hrm] at hmo
  rw [hrp, hrl, hrc, hrm] at hE
  have HPL := Lib.hid hpl
  have HPR := Lib.hid hpr
  have HCR := Lib.hid hcr
  have HMO := Lib.hid hmo
  have HRD := Lib.hid (hr.below hb1)
  have HE := Lib.hid hE
  clear hpl hpr hcr hmo hrp hrl hrc hrm hE
  obtain ⟨hp2, hq2, hr2, hn2, hl2⟩ := ptsE_good hE0
  rw [hE0] at HE
  obtain ⟨x0, hx0⟩ := onL_some hp2 hq2 hn2
  have hord := order_line hn2
  have hon := meetsL_on hp2 hq2 hr2
  have hdf := dir_far hp2 hq2
  have hd := fun W => direction_any p q W hp2 hq2
  have hmg := fun W => (meetings_any p q a n c W).mono (fun e w' h => And.intro h.1 h.2.symm)
  have hl3 : (meetsL p q rs).length ≤ 100000 := Nat.le_trans (meetsL_le _ _ _) (by omega)
  obtain ⟨d, hdd⟩ : ∃ d, dirV p q = d := ⟨_, rfl⟩
  rw [hdd] at hdf hord
  simp only [hdd] at hd ⊢
  have HD := Lib.hid hd
  have HMG := Lib.hid hmg
  have HSO := Lib.hid (And.intro hx0 (And.intro hord (And.intro hon (And.intro hdf hl3))))
  have HIN := Lib.hid (And.intro hp (And.intro hq (And.intro hrs hl)))
  have HRB := Lib.hid (show ∀ (i : Nat) (x : V4) (b off : Nat), rs[i]? = some x → a = some ⟨b, off, none⟩ → b < w.heap.size from fun i x b off hi e => by
    obtain ⟨b', off', e', hlt, _⟩ := hr i x hi
    rw [e] at e'; cases e'; exact hlt)
  clear hp2 hq2 hr2 hn2 hl2 hE0 hx0 hord hon hdf hd hmg hl3 hp hq hrs hl hr hdd
  refine (callsIn_wide (n := 6)).1 ?_
  refine callsIn_of_wp_marks Tryz.func29 rfl trivial ?_ rfl
  simp only [Tryz.ntmps29, List.size_toArray, List.length_cons, List.length_nil, Nat.reduceAdd, Nat.reduceSub, Array.replicate_succ, Array.replicate_zero, List.push_toArray, List.append_toArray, List.nil_append, List.cons_append]
  refine wpIn_wide.2 ?_
  go_upto_region 1 with fail
  go_cut [8] from 13 to 26 (fun v8 wx => v8 = .int .i64 (firstE [rp, rl, rc, rm]) ∧ Below w1.heap.size w1 wx)
  case first =>
    refine wp_region_kn' (fun ix => ix != 2 && ix != 3 && ix != 5 && ix != 8 && ix != 11 && ix != 12) (fun ix => match ix with | 0 => .agg #[.int .i64 p.a, .int .i64 p.b, .int .i64 p.c, .int .i64 p.d] | 1 => .agg #[.int .i64 q.a, .int .i64 q.b, .int .i64 q.c, .int .i64 q.d] | 4 => .slice a n c | 6 => .agg #[.int .i64 p.a, .int .i64 p.b, .int .i64 p.c, .int .i64 p.d] | 7 => .agg #[.int .i64 q.a, .int .i64 q.b, .int .i64 q.c, .int .i64 q.d] | 9 => .slice a n c | 10 => .int .i64 (n : Int) | 13 => .int .i64 (firstE [rp, rl, rc, rm]) | _ => .int .i64 (firstE [rp, rl, rc, rm])) (fun ix v w => match ix with | 2 => ∃ b, v = .slice (some ⟨b, 0, none⟩) 2 2 ∧ RdV w (some ⟨b, 0, none⟩) [p, q] | 3 => ChkIs w v rp | 5 => ChkIs w v rl | 8 => ChkIs w v rc | 11 => ChkIs w v rm | _ => ∃ b, v = .slice (some ⟨b, 0, none⟩) 4 4 ∧ RdC w (some ⟨b, 0, none⟩) [rp, rl, rc, rm]) (by kernel_rfl) (by kernel_rfl) ?_ ?_ ?_
    · intro ix v w8 w9 hb h
      rcases ix with _ | _ | _ | _ | _ | _ | _ | _ | _ | _ | _ | _ | _ | ix
      · obtain ⟨b, e, h⟩ := h; exact ⟨b, e, h.below hb⟩
      · obtain ⟨b, e, h⟩ := h; exact ⟨b, e, h.below hb⟩
      · obtain ⟨b, e, h⟩ := h; exact ⟨b, e, h.below hb⟩
      · exact ChkIs.below h hb
      · obtain ⟨b, e, h⟩ := h; exact ⟨b, e, h.below hb⟩
      · exact ChkIs.below h hb
      · obtain ⟨b, e, h⟩ := h; exact ⟨b, e, h.below hb⟩
      · obtain ⟨b, e, h⟩ := h; exact ⟨b, e, h.below hb⟩
      · exact ChkIs.below h hb
      · obtain ⟨b, e, h⟩ := h; exact ⟨b, e, h.below hb⟩
      · obtain ⟨b, e, h⟩ := h; exact ⟨b, e, h.below hb⟩
      · exact ChkIs.below h hb
      · obtain ⟨b, e, h⟩ := h; exact ⟨b, e, h.below hb⟩
      · obtain ⟨b, e, h⟩ := h; exact ⟨b, e, h.below hb⟩
    · rintro ix hx f ww hS hd
      have ka := k0.kept hS
      have kb := k1.kept hS
      have a0_ := ka.cell (i := 0) rfl
      have a1_ := ka.cell (i := 1) rfl
      have a2_ := ka.cell (i := 2) rfl
      have a3_ := ka.cell (i := 3) rfl
      have b0_ := kb.cell (i := 0) rfl
      have b1_ := kb.cell (i := 1) rfl
      have b2_ := kb.cell (i := 2) rfl
      have b3_ := kb.cell (i := 3) rfl
      rcases ix with _ | _ | _ | _ | _ | _ | _ | _ | _ | _ | _ | _ | _ | _ | _ | ix
      · refine wpOp_list rfl ?_
        simp only [tmOf, putAll, List.map_cons, List.map_nil, List.setIfInBounds_toArray, List.set_cons_zero, List.set_cons_succ]
        go_wp2
        refine ⟨.agg #[.int .i64 p.a, .int .i64 p.b, .int .i64 p.c, .int .i64 p.d], ?_⟩
        simp [upd, Below.refl]
      · refine wpOp_list rfl ?_
        simp only [tmOf, putAll, List.map_cons, List.map_nil, List.setIfInBounds_toArray, List.set_cons_zero, List.set_cons_succ]
        go_wp2
        refine ⟨.agg #[.int .i64 q.a, .int .i64 q.b, .int .i64 q.c, .int .i64 q.d], ?_⟩
        simp [upd, Below.refl]
      · have g0 : f 0 = .agg #[.int .i64 p.a, .int .i64 p.b, .int .i64 p.c, .int .i64 p.d] := hd 0 (by kernel_rfl)
        have g1 : f 1 = .agg #[.int .i64 q.a, .int .i64 q.b, .int .i64 q.c, .int .i64 q.d] := hd 1 (by kernel_rfl)
        refine wpOp_list rfl ?_
        simp only [tmOf, putAll, List.map_cons, List.map_nil, List.setIfInBounds_toArray, List.set_cons_zero, List.set_cons_succ]
        go_wp2
        exact ⟨.slice (some ⟨ww.heap.size, 0, none⟩) 2 2, by simp [upd, g0, g1], ⟨_, rfl, planesQ2 ww p q _⟩, (Below.refl _ ww).alloc (Nat.le_refl _) _⟩
      · obtain ⟨b15, g2, hR15⟩ : ∃ b, f 2 = .slice (some ⟨b, 0, none⟩) 2 2 ∧ RdV ww (some ⟨b, 0, none⟩) [p, q] := hd 2 (by kernel_rfl)
        refine wpOp_list rfl ?_
        simp only [tmOf, putAll, List.map_cons, List.map_nil, List.setIfInBounds_toArray, List.set_cons_zero, List.set_cons_succ]
        go_wp2_with fail
        refine (HPL.out b15 _ hR15).mono ?_
        rintro e' wf ⟨v, rfl, hv, hbf⟩
        go_wp2_with fail
        first
          | exact ⟨v, by simp [upd, g2], hv, hbf⟩
          | exact ⟨v, by simp [upd, g2], hv⟩
      · refine wpOp_list rfl ?_
        simp only [tmOf, putAll, List.map_cons, List.map_nil, List.setIfInBounds_toArray, List.set_cons_zero, List.set_cons_succ]
        go_wp2
        refine ⟨.slice a n c, ?_⟩
        simp [upd, Below.refl]
      · have g4 : f 4 = .slice a n c := hd 4 (by kernel_rfl)
        refine wpOp_list rfl ?_
        simp only [tmOf, putAll, List.map_cons, List.map_nil, List.setIfInBounds_toArray, List.set_cons_zero, List.set_cons_succ]
        go_wp2_with fail
        refine (HPR.out _ (HRD.out.below hS)).mono ?_
        rintro e' wf ⟨v, rfl, hv, hbf⟩
        go_wp2_with fail
        first
          | exact ⟨v, by simp [upd, g4], hv, hbf⟩
          | exact ⟨v, by simp [upd, g4], hv⟩
      · refine wpOp_list rfl ?_
        simp only [tmOf, putAll, List.map_cons, List.map_nil, List.setIfInBounds_toArray, List.set_cons_zero, List.set_cons_succ]
        go_wp2
        refine ⟨.agg #[.int .i64 p.a, .int .i64 p.b, .int .i64 p.c, .int .i64 p.d], ?_⟩
        simp [upd, Below.refl]
      · refine wpOp_list rfl ?_
        simp only [tmOf, putAll, List.map_cons, List.map_nil, List.setIfInBounds_toArray, List.set_cons_zero, List.set_cons_succ]
        go_wp2
        refine ⟨.agg #[.int .i64 q.a, .int .i64 q.b, .int .i64 q.c, .int .i64 q.d], ?_⟩
        simp [upd, Below.refl]
      · have g6 : f 6 = .agg #[.int .i64 p.a, .int .i64 p.b, .int .i64 p.c, .int .i64 p.d] := hd 6 (by kernel_rfl)
        have g7 : f 7 = .agg #[.int .i64 q.a, .int .i64 q.b, .int .i64 q.c, .int .i64 q.d] := hd 7 (by kernel_rfl)
        refine wpOp_list rfl ?_
        simp only [tmOf, putAll, List.map_cons, List.map_nil, List.setIfInBounds_toArray, List.set_cons_zero, List.set_cons_succ]
        go_wp2_with fail
        refine (HCR.out _).mono ?_
        rintro e' wf ⟨v, rfl, hv, hbf⟩
        go_wp2_with fail
        first
          | exact ⟨v, by simp [upd, g6, g7], hv, hbf⟩
          | exact ⟨v, by simp [upd, g6, g7], hv⟩
      · refine wpOp_list rfl ?_
        simp only [tmOf, putAll, List.map_cons, List.map_nil, List.setIfInBounds_toArray, List.set_cons_zero, List.set_cons_succ]
        go_wp2
        refine ⟨.slice a n c, ?_⟩
        simp [upd, Below.refl]
      · have g9 : f 9 = .slice a n c := hd 9 (by kernel_rfl)
        refine wpOp_list rfl ?_
        simp only [tmOf, putAll, List.map_cons, List.map_nil, List.setIfInBounds_toArray, List.set_cons_zero, List.set_cons_succ]
        go_wp2
        refine ⟨.int .i64 (n : Int), ?_⟩
        simp [upd, g9, Below.refl]
      · have g10 : f 10 = .int .i64 (n : Int) := hd 10 (by kernel_rfl)
        refine wpOp_list rfl ?_
        simp only [tmOf, putAll, List.map_cons, List.map_nil, List.setIfInBounds_toArray, List.set_cons_zero, List.set_cons_succ]
        go_wp2_with fail
        refine (HMO.out _).mono ?_
        rintro e' wf ⟨v, rfl, hv, hbf⟩
        go_wp2_with fail
        first
          | exact ⟨v, by simp [upd, g10], hv, hbf⟩
          | exact ⟨v, by simp [upd, g10], hv⟩
      · have h16 : ChkIs ww (f 3) rp := hd 3 (by kernel_rfl)
        obtain ⟨gf16, caps16, g3, _⟩ := id h16
        have h18 : ChkIs ww (f 5) rl := hd 5 (by kernel_rfl)
        obtain ⟨gf18, caps18, g5, _⟩ := id h18
        have h21 : ChkIs ww (f 8) rc := hd 8 (by kernel_rfl)
        obtain ⟨gf21, caps21, g8, _⟩ := id h21
        have h24 : ChkIs ww (f 11) rm := hd 11 (by kernel_rfl)
        obtain ⟨gf24, caps24, g11, _⟩ := id h24
        refine wpOp_list rfl ?_
        simp only [tmOf, putAll, List.map_cons, List.map_nil, List.setIfInBounds_toArray, List.set_cons_zero, List.set_cons_succ]
        have hrc25 := checks4 ww _ _ _ _ rp rl rc rm 82 h16 h18 h21 h24
        rw [g3, g5, g8, g11] at hrc25
        clear h16 h18 h21 h24
        go_wp2
        exact ⟨.slice (some ⟨ww.heap.size, 0, none⟩) 4 4, by simp [upd, g3, g5, g8, g11], ⟨_, rfl, hrc25⟩, (Below.refl _ ww).alloc (Nat.le_refl _) _⟩
      · obtain ⟨b25, g12, hR25⟩ : ∃ b, f 12 = .slice (some ⟨b, 0, none⟩) 4 4 ∧ RdC ww (some ⟨b, 0, none⟩) [rp, rl, rc, rm] := hd 12 (by kernel_rfl)
        refine wpOp_list rfl ?_
        simp only [tmOf, putAll, List.map_cons, List.map_nil, List.setIfInBounds_toArray, List.set_cons_zero, List.set_cons_succ]
        have hf := first_any (some ⟨b25, 0, none⟩) 4 4 [rp, rl, rc, rm] ww rfl (by decide) hR25
        have HF := Lib.hid hf
        clear hf hR25
        go_wp2_with fail
        refine HF.out.mono ?_
        rintro e' wf ⟨rfl, hbf⟩
        go_wp2_with fail
        try refine ⟨.int .i64 (firstE [rp, rl, rc, rm]), ?_⟩
        simp [upd, g12, hbf]
      · have g13 : f 13 = .int .i64 (firstE [rp, rl, rc, rm]) := hd 13 (by kernel_rfl)
        refine wpOp_list rfl ?_
        simp only [tmOf, putAll, List.map_cons, List.map_nil, List.setIfInBounds_toArray, List.set_cons_zero, List.set_cons_succ]
        go_wp2
        refine ⟨.int .i64 (firstE [rp, rl, rc, rm]), ?_⟩
        simp [upd, g13, Below.refl]
      · simp only [List.length_cons, List.length_nil] at hx; omega
    · rintro f ww hS hd
      have G8 : f 14 = .int .i64 (firstE [rp, rl, rc, rm]) := hd 14 (by decide)
      simp only [tmOf, putAll, List.map_cons, List.map_nil, List.setIfInBounds_toArray, List.set_cons_zero, List.set_cons_succ]
      refine ‹∀ (a' : Act) (w' : World), Met _ a' w' → _› _ _ ?_
      go_meet
      case rel => exact ⟨G8, hS⟩
  case rest =>
  obtain ⟨rfl, hbx⟩ := hcut
  rw [HE.out]
  have k0 := k0.kept hbx
  have k1 := k1.kept hbx
  have HRD := Lib.hid (HRD.out.below hbx)
  have hb := hb1.trans (hbx.mono hb1.size)
  clear hbx HPL HPR HCR HMO HE
  generalize wc = wy at *
  have hws : w1.heap.size = w.heap.size + 1 + 1 := by rw [← hw1]; simp
  have hwy : w.heap.size + 1 + 1 ≤ wy.heap.size := by have := k1.lt; omega
  clear hw1
  have p0 := k0.cell (i := 0) rfl
  have p1 := k0.cell (i := 1) rfl
  have p2 := k0.cell (i := 2) rfl
  have p3 := k0.cell (i := 3) rfl
  have q0 := k1.cell (i := 0) rfl
  have q1 := k1.cell (i := 1) rfl
  have q2 := k1.cell (i := 2) rfl
  have q3 := k1.cell (i := 3) rfl
  go_wp2_with fail
  refine (HD.out _).mono ?_
  rintro e' w2 ⟨rfl, hb2⟩
  have k0 := k0.kept hb2
  have k1 := k1.kept hb2
  have HRD := Lib.hid (HRD.out.below hb2)
  have hb := hb.trans (hb2.mono hb.size)
  have hw2 := hb2.size
  clear p0 p1 p2 p3 q0 q1 q2 q3 hb2 HD
  obtain ⟨wa, hwa⟩ : ∃ w', w2.alloc (.cells #[.int .i64 0, .int .i64 0, .int .i64 0] 24) = w' := ⟨_, rfl⟩
  have ka : Blk wa w2.heap.size #[.int .i64 0, .int .i64 0, .int .i64 0] 24 := by rw [← hwa]; exact Blk.new _ _ _
  have hba : Below w2.heap.size w2 wa := by rw [← hwa]; exact (Below.refl _ _).alloc (Nat.le_refl _) _
  obtain ⟨ws, hws2⟩ : ∃ w', (((wa.setCell ⟨w2.heap.size, 0, none⟩ (.int .i64 d.a)).setCell ⟨w2.heap.size, 1, none⟩ (.int .i64 d.b)).setCell ⟨w2.heap.size, 2, none⟩ (.int .i64 d.c)) = w' := ⟨_, rfl⟩
  have hbs : Below w2.heap.size w2 ws := by rw [← hws2]; exact ((hba.setCell (by simp only; omega) _).setCell (by simp only; omega) _).setCell (by simp only; omega) _
  have kD : Blk ws w2.heap.size #[.int .i64 d.a, .int .i64 d.b, .int .i64 d.c] 24 := by rw [← hws2]; exact Blk.put3 ka _ _ _
  have k0 := k0.kept hbs
  have k1 := k1.kept hbs
  have HRD := Lib.hid (HRD.out.below hbs)
  have hb := hb.trans (hbs.mono hb.size)
  have hwD := kD.lt
  have da0 := ka.cell (i := 0) rfl
  have da1 := ka.cell (i := 1) rfl
  have da2 := ka.cell (i := 2) rfl
  have df0 := ka.frozen 0
  have df1 := ka.frozen 1
  have df2 := ka.frozen 2
  obtain ⟨wg, hwg⟩ : ∃ w', ws.alloc (.cells #[.slice none 0 0] 52) = w' := ⟨_, rfl⟩
  have kG : Blk wg ws.heap.size #[.slice none 0 0] 52 := by rw [← hwg]; exact Blk.new _ _ _
  have hbg : Below ws.heap.size ws wg := by rw [← hwg]; exact (Below.refl _ _).alloc (Nat.le_refl _) _
  have k0 := k0.kept hbg
  have k1 := k1.kept hbg
  have kD := kD.kept hbg
  have HRD := Lib.hid (HRD.out.below hbg)
  have hb := hb.trans (hbg.mono hb.size)
  have hwG := kG.lt
  have p0 := k0.cell (i := 0) rfl
  have p1 := k0.cell (i := 1) rfl
  have p2 := k0.cell (i := 2) rfl
  have p3 := k0.cell (i := 3) rfl
  have q0 := k1.cell (i := 0) rfl
  have q1 := k1.cell (i := 1) rfl
  have q2 := k1.cell (i := 2) rfl
  have q3 := k1.cell (i := 3) rfl
  go_wp2_with (go_at_call 65; refine (HMG.out _).mono ?_; rintro e' W0 ⟨rfl, hW0⟩)
  refine (wpIn_wide (n := 6)).1 ?_
  clear p0 p1 p2 p3 q0 q1 q2 q3 da0 da1 da2 df0 df1 df2 HMG
  have hb0 : Below wg.heap.size wg W0 := by rw [← hW0]; exact bw3 wg _ _ _
  have kp : Blk W0 wg.heap.size #[.int .i64 p.a, .int .i64 p.b, .int .i64 p.c, .int .i64 p.d] 23 := by rw [← hW0]; exact ((Blk.new wg _ _).alloc _).alloc _
  have kq : Blk W0 (wg.heap.size + 1) #[.int .i64 q.a, .int .i64 q.b, .int .i64 q.c, .int .i64 q.d] 23 := by rw [← hW0]; exact (Blk.new' _ _ _ (by simp)).alloc _
  have kl : Blk W0 (wg.heap.size + 1 + 1) #[.slice a n c] 31 := by rw [← hW0]; exact Blk.new' _ _ _ (by simp)
  have hsz : W0.heap.size = wg.heap.size + 1 + 1 + 1 := by rw [← hW0]; simp
  have k0 := k0.kept hb0
  have k1 := k1.kept hb0
  have kD := kD.kept hb0
  have kG := kG.kept hb0
  have HRD := Lib.hid (HRD.out.below hb0)
  have hb := hb.trans (hb0.mono hb.size)
  clear hW0 hb0 ka hba hbs hbg hwa hws2 hwg
  refine wpIn_rangeFunc_ownH rfl (by omega) (gf := 92) (lb := #[.pointer (some ⟨wg.heap.size + 1 + 1, 0, none⟩), .pointer (some ⟨wg.heap.size, 0, none⟩), .pointer (some ⟨wg.heap.size + 1, 0, none⟩)]) rfl trivial (enters_of Tryz.func92 (by kernel_rfl) rfl)
    (meets_stops 5 (by omega) (wg.heap.size + 1 + 1) wg.heap.size (wg.heap.size + 1) (fun b => b < w.heap.size ∨ b = wg.heap.size ∨ b = wg.heap.size + 1 ∨ b = wg.heap.size + 1 + 1) p q a n c rs W0 HIN.out.2.2.2 hn HIN.out.1 HIN.out.2.1 HIN.out.2.2.1 kp kq kl HRD.out (Or.inr (Or.inl rfl)) (Or.inr (Or.inr (Or.inl rfl))) (Or.inr (Or.inr (Or.inr rfl))) (fun i x b off hi e => Or.inl (HRB.out i x b off hi e)) (fun b hb => by omega))
    KeepsAt.trans (KeepsAt.putObj (fun b hb => by omega)) (Below.refl _ _) (fun _ => rfl)
    (fun pre W => ((∃ v, Blk W ws.heap.size #[v] 52 ∧ GrVQ W W0.heap.size v pre) ∧ Blk W w2.heap.size #[.int .i64 d.a, .int .i64 d.b, .int .i64 d.c] 24 ∧ W0.heap.size ≤ W.heap.size) ∧ Below w.heap.size w W)
    (fun _ _ _ => False)
    (OwnFrom.and (Own.from (fun s A B row hs hg hr => ⟨(by obtain ⟨v, h1, h2⟩ := hs.1; exact ⟨v, h1.own hg hr, h2.own hg hr⟩), hs.2.1.own hg hr, Nat.le_trans hs.2.2 hg.size⟩) _) (ownFrom_below (Nat.le_refl _) (by omega)))
    (fun _ _ _ _ _ hs _ _ => hs)
    ⟨⟨⟨_, kG, GrVQ.nil _ _⟩, kD, Nat.le_refl _⟩, hb⟩
    (fun x a' W => ∃ N, a' = { tmps := #[.agg #[.int .i64 p.a, .int .i64 p.b, .int .i64 p.c, .int .i64 p.d], .agg #[.int .i64 q.a, .int .i64 q.b, .int .i64 q.c, .int .i64 q.d], .slice a n c, .pointer (some ⟨w.heap.size, 0, none⟩), .pointer (some ⟨w.heap.size + 1, 0, none⟩), undef, .slice none 0 0, .int .i64 0, .int .i64 0, .pointer (some ⟨w2.heap.size, 0, none⟩), .pointer (some ⟨ws.heap.size, 0, none⟩), .pointer (some ⟨N, 0, none⟩), undef, u13, u14, u15, u16, u17, u18, u19, u20, u21, u22, u23, u24, u25, u26, .int .i64 0, .bool false, undef, .agg #[.int .i64 p.a, .int .i64 p.b, .int .i64 p.c, .int .i64 p.d], .agg #[.int .i64 q.a, .int .i64 q.b, .int .i64 q.c, .int .i64 q.d], .agg #[.int .i64 d.a, .int .i64 d.b, .int .i64 d.c], .agg #[.int .i64 p.a, .int .i64 p.b, .int .i64 p.c, .int .i64 p.d], .agg #[.int .i64 q.a, .int .i64 q.b, .int .i64 q.c, .int .i64 q.d], .slice a n c, .func (.func 92) #[] #[.pointer (some ⟨wg.heap.size + 1 + 1, 0, none⟩), .pointer (some ⟨wg.heap.size, 0, none⟩), .pointer (some ⟨wg.heap.size + 1, 0, none⟩)], .agg #[.int .i64 x.a, .int .i64 x.b, .int .i64 x.c, .int .i64 x.d], undef, undef, undef, undef, undef, undef, undef, undef], defers := [] } ∧ W0.heap.size ≤ N ∧ Blk W N #[.int .i64 x.a, .int .i64 x.b, .int .i64 x.c, .int .i64 x.d] 41)
    (fun x a' s A B row hs hg hr => by obtain ⟨N, e, hN, hk⟩ := hs; exact ⟨N, e, hN, hk.own hg (fun r e => (hr r e).2)⟩) ?assign ?body ?done ?stop
  case assign =>
    rintro l pre x W K ⟨⟨⟨v, kG, hgr⟩, kD, hsz2⟩, hB⟩ hK
    obtain ⟨wa, hwa⟩ : ∃ w', W.alloc (.cells #[.int .i64 0, .int .i64 0, .int .i64 0, .int .i64 0] 41) = w' := ⟨_, rfl⟩
    have ka : Blk wa W.heap.size #[.int .i64 0, .int .i64 0, .int .i64 0, .int .i64 0] 41 := by rw [← hwa]; exact Blk.new _ _ _
    have hba : Below W.heap.size W wa := by rw [← hwa]; exact (Below.refl _ _).alloc (Nat.le_refl _) _
    obtain ⟨wb, hwb⟩ : ∃ w', ((((wa.setCell ⟨W.heap.size, 0, none⟩ (.int .i64 x.a)).setCell ⟨W.heap.size, 1, none⟩ (.int .i64 x.b)).setCell ⟨W.heap.size, 2, none⟩ (.int .i64 x.c)).setCell ⟨W.heap.size, 3, none⟩ (.int .i64 x.d)) = w' := ⟨_, rfl⟩
    have hbb : Below W.heap.size W wb := by rw [← hwb]; exact (((hba.setCell (by simp only; omega) _).setCell (by simp only; omega) _).setCell (by simp only; omega) _).setCell (by simp only; omega) _
    have kb : Blk wb W.heap.size #[.int .i64 x.a, .int .i64 x.b, .int .i64 x.c, .int .i64 x.d] 41 := by rw [← hwb]; exact Blk.put4 ka _ _ _ _
    have hkW : KeepsOthers W wb := .of_grownBy (grown_of_below hbb) fun j o e hj => by cases e
    have hkA := KeepsAt.of_below (S := fun b => b < w.heap.size ∨ b = wg.heap.size ∨ b = wg.heap.size + 1 ∨ b = wg.heap.size + 1 + 1) hbb (fun b hb => by omega)
    have HK := Lib.hid (hK _ wb (hkW.from _) hkA ⟨⟨⟨v, kG.kept hbb, hgr.below hbb⟩, kD.kept hbb, Nat.le_trans hsz2 hbb.size⟩, hB.trans (hbb.mono hB.size)⟩ ⟨W.heap.size, rfl, hsz2, kb⟩)
    clear hK hkW hkA kb kG hgr kD
    have da0 := ka.cell (i := 0) rfl
    have da1 := ka.cell (i := 1) rfl
    have da2 := ka.cell (i := 2) rfl
    have da3 := ka.cell (i := 3) rfl
    have df0 := ka.frozen 0
    have df1 := ka.frozen 1
    have df2 := ka.frozen 2
    have df3 := ka.frozen 3
    unfold encQ
    gi_wp2
    exact HK.out
  case body =>
    rintro l pre x a' W _ _ ⟨⟨⟨v, kG, hgr⟩, kD, hsz2⟩, hB⟩ ⟨N, rfl, hN, kx⟩ hlt
    obtain ⟨a5, c5, rfl, _, _⟩ := hgr.rd
    obtain ⟨pn, hpn⟩ : ∃ k, pre.length = k := ⟨_, rfl⟩
    have hpl9 : pre.length ≤ 1000000000 := by omega
    rw [hpn] at kG hgr
    have HPL9 := Lib.hid hpl9
    have HGR := Lib.hid hgr
    clear hpn hlt hpl9 hgr
    have x0 := kx.cell (i := 0) rfl
    have x1 := kx.cell (i := 1) rfl
    have x2 := kx.cell (i := 2) rfl
    have x3 := kx.cell (i := 3) rfl
    have gg0 := kG.cell (i := 0) rfl
    gi_wp2_with (gi_at_builtin; refine wpListIn_of_wpList (by rintro ⟨_, _, h⟩; exact h) _ (by kernel_rfl) _ _ ?_; refine push1Q_lawK rfl _ _ rfl rfl HGR.out x rfl HPL9.out hsz2 ?_)
    intro v' w' hgr' hbw hko
    obtain ⟨a6, c6, rfl, _, _⟩ := hgr'.rd
    obtain ⟨pm, hpm⟩ : ∃ k, (pre ++ [x]).length = k := ⟨_, rfl⟩
    rw [hpm] at hgr'
    rw [hpm]
    clear hpm
    have kG := kG.below hbw (by omega)
    have kD := kD.below hbw (by omega)
    have e0 := kG.cell (i := 0) rfl
    have e1 := kG.frozen 0
    clear x0 x1 x2 x3 gg0
    go_wp2
    refine ⟨(hko.trans (KeepsOthers.setCell _ _ _)).from _, ((KeepsAt.of_below hbw (fun b hb => by omega)).setCell _ _ (by simp only; omega)), ⟨⟨_, kG.set_eq 0 _ rfl, ?_⟩, kD.other 0 _ (by omega), ?_⟩, ?_⟩
    · rw [hsz]; exact hgr'.set ⟨ws.heap.size, 0, none⟩ _ (by first | (show ws.heap.size < wg.heap.size + 1 + 1 + 1; omega) | (show ws.heap.size < W0.heap.size; omega))
    · have := hbw.size; simp; omega
    · exact (hB.trans (hbw.mono (by omega))).setCell (by simp only; omega) _
  case done =>
    rintro D zs W hD rfl ⟨⟨⟨v, kG, hgr⟩, kD, hsz2⟩, hB⟩ hK
    obtain ⟨hx0, hord, hon, hdf, hl3⟩ := HSO.out
    obtain ⟨a5, c5, rfl, _, hrd⟩ := hgr.rd
    obtain ⟨L, hLL⟩ : ∃ y, meetsL p q rs = y := ⟨_, rfl⟩
    rw [hLL] at hon hl3 hrd kG hgr
    have HLL := Lib.hid hLL
    obtain ⟨pn, hpn⟩ : ∃ k, L.length = k := ⟨_, rfl⟩
    have hso := sortedQ_any (onL p q) x0 hx0 (fun a b => sgnI (leadZ d a b)) hord 66 #[.pointer (some ⟨w2.heap.size, 0, none⟩)] a5 pn c5 L W hpn (by omega) hon hrd (enters_of Tryz.func66 (by kernel_rfl) rfl)
      (fun W' hW' x y hx hy => forward_any w2.heap.size d x y W' hdf (soundQ_in hx.1) (soundQ_in hy.1) (leadZ_fit hdf hx.1 hy.1) (kD.kept hW'))
    rw [hpn] at kG
    have HS := Lib.hid hso
    clear hso hx0 hord hon hdf hl3 hrd hgr hpn hLL
    have e0 := kG.cell (i := 0) rfl
    go_wp2_with fail
    refine HS.out.mono ?_
    rintro e' wz ⟨p', c', l', rfl, hr', hsi, hbz⟩
    obtain ⟨ln, hln⟩ : ∃ k, List.length l' = k := ⟨_, rfl⟩
    have HLN := Lib.hid hln
    rw [hln]
    clear hln e0 HS
    go_wp2_with fail
    have hK' : wz.heap[D]? = some (.deferred (some [])) := (hbz.block D (by
      have := (Array.getElem?_eq_some_iff.1 hK).1
      exact this)).trans hK
    refine ⟨by simp, .inl ⟨_, _, rfl, run_takeDeferred hK', ?_⟩⟩
    refine ⟨.tuple #[.slice p' ln c', .int .i64 0], ?_, ⟨⟨p', c', l', by rw [HLN.out], ?_, by rw [HLL.out]; exact hsi⟩, (hB.trans (hbz.mono hB.size)).trans (belowK_b (w := w) (Nat.le_refl _) wz D _ _ (by omega) hK' rfl rfl)⟩⟩
    · simp [results, Tryz.f29, go_sem]
    · exact hr'.putObj _ hK'
  case stop =>
    rintro D c' pre W _ _ h _
    exact h.elim

end Go.Proofs.YtimkeblcdodfmaaGreat

namespace Go.Proofs.YtimkeblcdodfmaaGreat
open Go.RowKit Go.Shelf
attribute [local go_sem] Oper.semAt_some

set_option maxRecDepth 100000 in
set_option maxHeartbeats 4000000 in
theorem points5_any (p q : Option Addr) (n m c d : Nat) (xs ys : List V4) (w : World) (hl : xs.length = n) (hm : ys.length = m) (hn : n ≤ 1000000000) (hm9 : m ≤ 1000000000) (hx : RdV w p xs) (hy : RdV w q ys) :
    Calls Tryz.prog 31 #[.slice p n c, .slice q m d] w fun e w' => e = .returned (.bool (decide (xs = ys))) ∧ Below w.heap.size w w' := by
  have heq := fun p q W => eqPoint p q W
  by_cases hnm : n = m
  · subst hnm
    have hnn : ((n : Int) != (n : Int)) = false := by simp
    obtain ⟨R, hR⟩ : ∃ y, decide (xs = ys) = y := ⟨_, rfl⟩
    rw [hR]
    have HR := Lib.hid hR
    have HX := Lib.hid hx
    have HY := Lib.hid hy
    have HL := Lib.hid (And.intro hl hm)
    clear hR hx hy hl hm
    go_enter Tryz.func31, Tryz.ntmps31
    go_wp2_with fail
    go_loopg [5] n (fun gk v5 wr => ∃ i : Nat, i ≤ n ∧ gk = n - i ∧ v5 = .int .i64 (i : Int) ∧ Hid (xs.take i = ys.take i) ∧ Below w.heap.size w wr)
    case atStart => exact ⟨0, Nat.zero_le _, rfl, rfl, Lib.hid (by simp), Below.refl _ _⟩
    case round =>
      obtain ⟨i, hi, hgk, rfl, HA, hb⟩ := hrel
      have HGK := Lib.hid hgk
      clear hgk
      by_cases hlt : i < n
      · have hil : i < xs.length := by rw [HL.out.1]; exact hlt
        have him : i < ys.length := by rw [HL.out.2]; exact hlt
        have hlti : (i : Int) < (n : Int) := by omega
        obtain ⟨b, off, rfl, hbl, g0, g1, g2, g3⟩ := HX.out i _ (List.getElem?_eq_getElem hil)
        obtain ⟨b2, off2, rfl, hbm, h0, h1, h2, h3⟩ := HY.out i _ (List.getElem?_eq_getElem him)
        have htk : xs.take (i + 1) = xs.take i ++ [xs[i]] := List.take_succ_eq_append_getElem hil
        have htm : ys.take (i + 1) = ys.take i ++ [ys[i]] := List.take_succ_eq_append_getElem him
        have hne : xs[i] ≠ ys[i] → xs ≠ ys := fun h e => h (by subst e; rfl)
        generalize xs[i] = x at *
        generalize ys[i] = y at *
        have g0 := (hb.cell (p := ⟨b, off + i * 4, none⟩) hbl).trans g0
        have g1 := (hb.cell (p := ⟨b, off + i * 4 + 1, none⟩) hbl).trans g1
        have g2 := (hb.cell (p := ⟨b, off + i * 4 + 2, none⟩) hbl).trans g2
        have g3 := (hb.cell (p := ⟨b, off + i * 4 + 3, none⟩) hbl).trans g3
        have h0 := (hb.cell (p := ⟨b2, off2 + i * 4, none⟩) hbm).trans h0
        have h1 := (hb.cell (p := ⟨b2, off2 + i * 4 + 1, none⟩) hbm).trans h1
        have h2 := (hb.cell (p := ⟨b2, off2 + i * 4 + 2, none⟩) hbm).trans h2
        have h3 := (hb.cell (p := ⟨b2, off2 + i * 4 + 3, none⟩) hbm).trans h3
        have hbl := Nat.lt_of_lt_of_le hbl hb.size
        have hbm := Nat.lt_of_lt_of_le hbm hb.size
        have HT := Lib.hid (And.intro htk (And.intro htm hne))
        replace heq := fun W => heq x y W
        obtain ⟨D, hD⟩ : ∃ y', decide (x = y) = y' := ⟨_, rfl⟩
        simp only [hD] at heq
        have HD := Lib.hid hD
        obtain ⟨B, hB⟩ : ∃ y', (!D) = y' := ⟨_, rfl⟩
        clear htk htm hne hD hil him
        go_upto_region 6 with fail
        go_cut [25] from 17 to 25 (fun v25 wx => v25 = .bool B ∧ Below wr.heap.size wr wx)
        case first =>
          refine wp_region_pure' (fun ix => match ix with | 0 => .slice (some ⟨b, off, none⟩) n c | 1 => .int .i64 (i : Int) | 2 => .pointer (some ⟨b, off + i * 4, none⟩) | 3 => .agg #[.int .i64 x.a, .int .i64 x.b, .int .i64 x.c, .int .i64 x.d] | 4 => .slice (some ⟨b2, off2, none⟩) n d | 5 => .int .i64 (i : Int) | 6 => .pointer (some ⟨b2, off2 + i * 4, none⟩) | 7 => .agg #[.int .i64 y.a, .int .i64 y.b, .int .i64 y.c, .int .i64 y.d] | _ => .bool B) (by kernel_rfl) (by kernel_rfl) ?_ ?_
          · rintro ix hx f ww hS hd
            have e0_ := (hS.cell (p := ⟨b, off + i * 4, none⟩) hbl).trans g0
            have e1_ := (hS.cell (p := ⟨b, off + i * 4 + 1, none⟩) hbl).trans g1
            have e2_ := (hS.cell (p := ⟨b, off + i * 4 + 2, none⟩) hbl).trans g2
            have e3_ := (hS.cell (p := ⟨b, off + i * 4 + 3, none⟩) hbl).trans g3
            have f0_ := (hS.cell (p := ⟨b2, off2 + i * 4, none⟩) hbm).trans h0
            have f1_ := (hS.cell (p := ⟨b2, off2 + i * 4 + 1, none⟩) hbm).trans h1
            have f2_ := (hS.cell (p := ⟨b2, off2 + i * 4 + 2, none⟩) hbm).trans h2
            have f3_ := (hS.cell (p := ⟨b2, off2 + i * 4 + 3, none⟩) hbm).trans h3
            rcases ix with _ | _ | _ | _ | _ | _ | _ | _ | _ | ix
            · refine wpOp_list rfl ?_
              simp only [tmOf, putAll, List.map_cons, List.map_nil, List.setIfInBounds_toArray, List.set_cons_zero, List.set_cons_succ]
              go_wp2
              simp [upd, Below.refl]
            · refine wpOp_list rfl ?_
              simp only [tmOf, putAll, List.map_cons, List.map_nil, List.setIfInBounds_toArray, List.set_cons_zero, List.set_cons_succ]
              go_wp2
              simp [upd, Below.refl]
            · have g0 : f 0 = .slice (some ⟨b, off, none⟩) n c := hd 0 (by kernel_rfl)
              have g1 : f 1 = .int .i64 (i : Int) := hd 1 (by kernel_rfl)
              refine wpOp_list rfl ?_
              simp only [tmOf, putAll, List.map_cons, List.map_nil, List.setIfInBounds_toArray, List.set_cons_zero, List.set_cons_succ]
              go_wp2
              simp [upd, g0, g1, Below.refl]
            · have g2 : f 2 = .pointer (some ⟨b, off + i * 4, none⟩) := hd 2 (by kernel_rfl)
              refine wpOp_list rfl ?_
              simp only [tmOf, putAll, List.map_cons, List.map_nil, List.setIfInBounds_toArray, List.set_cons_zero, List.set_cons_succ]
              go_wp2
              simp [upd, g2, Below.refl]
            · refine wpOp_list rfl ?_
              simp only [tmOf, putAll, List.map_cons, List.map_nil, List.setIfInBounds_toArray, List.set_cons_zero, List.set_cons_succ]
              go_wp2
              simp [upd, Below.refl]
            · refine wpOp_list rfl ?_
              simp only [tmOf, putAll, List.map_cons, List.map_nil, List.setIfInBounds_toArray, List.set_cons_zero, List.set_cons_succ]
              go_wp2
              simp [upd, Below.refl]
            · have g4 : f 4 = .slice (some ⟨b2, off2, none⟩) n d := hd 4 (by kernel_rfl)
              have g5 : f 5 = .int .i64 (i : Int) := hd 5 (by kernel_rfl)
              refine wpOp_list rfl ?_
              simp only [tmOf, putAll, List.map_cons, List.map_nil, List.setIfInBounds_toArray, List.set_cons_zero, List.set_cons_succ]
              go_wp2
              simp [upd, g4, g5, Below.refl]
            · have g6 : f 6 = .pointer (some ⟨b2, off2 + i * 4, none⟩) := hd 6 (by kernel_rfl)
              refine wpOp_list rfl ?_
              simp only [tmOf, putAll, List.map_cons, List.map_nil, List.setIfInBounds_toArray, List.set_cons_zero, List.set_cons_succ]
              go_wp2
              simp [upd, g6, Below.refl]
            · have g3 : f 3 = .agg #[.int .i64 x.a, .int .i64 x.b, .int .i64 x.c, .int .i64 x.d] := hd 3 (by kernel_rfl)
              have g7 : f 7 = .agg #[.int .i64 y.a, .int .i64 y.b, .int .i64 y.c, .int .i64 y.d] := hd 7 (by kernel_rfl)
              refine wpOp_list rfl ?_
              simp only [tmOf, putAll, List.map_cons, List.map_nil, List.setIfInBounds_toArray, List.set_cons_zero, List.set_cons_succ]
              go_wp2
              simp [upd, g3, g7, Below.refl]
            · simp only [List.length_cons, List.length_nil] at hx; omega
          · rintro f' ww hS hd
            have gl : f' 8 = .bool B := hd 8 (by decide)
            simp only [tmOf, putAll, List.map_cons, List.map_nil, List.setIfInBounds_toArray, List.set_cons_zero, List.set_cons_succ]
            refine ‹∀ (a' : Act) (w' : World), Met _ a' w' → _› _ _ ?_
            go_meet
            case rel => exact ⟨gl, hS⟩
        case rest =>
        obtain ⟨rfl, hbx⟩ := hcut
        have hb := hb.trans (hbx.mono hb.size)
        clear hbx heq g0 g1 g2 g3 h0 h1 h2 h3
        cases D with
        | true =>
          subst hB
          go_wp2_with fail
          go_roundg (n - (i + 1))
          case measure => rw [HGK.out]; omega
          case rel =>
            refine ⟨i + 1, by omega, rfl, by go_num, Lib.hid ?_, hb⟩
            rw [HT.out.1, HT.out.2.1, HA.out, of_decide_eq_true HD.out]
        | false =>
          subst hB
          have hRf : R = false := by rw [← HR.out]; exact decide_eq_false (HT.out.2.2 (of_decide_eq_false HD.out))
          have HRF := Lib.hid hRf
          clear hRf
          go_wp2_with fail
          go_ret
          exact ⟨by rw [HRF.out]; rfl, hb⟩
      · obtain rfl : i = n := by omega
        have hlti : ¬ (i : Int) < (i : Int) := by omega
        have hRt : R = true := by
          have h := HA.out
          rw [List.take_of_length_le (by rw [HL.out.1]; exact Nat.le_refl _), List.take_of_length_le (by rw [HL.out.2]; exact Nat.le_refl _)] at h
          rw [← HR.out]; exact decide_eq_true h
        have HRT := Lib.hid hRt
        clear hRt
        go_wp2_with fail
        go_ret
        exact ⟨by rw [HRT.out]; rfl, hb⟩
  · have hnn : ((n : Int) != (m : Int)) = true := by simp; omega
    have hnn2 : ((n : Int) == (m : Int)) = false := by simp; omega
    have hR : decide (xs = ys) = false := decide_eq_false (fun e => hnm (by rw [← hl, ← hm, e]))
    rw [hR]
    clear hR hx hy hl hm hnm heq
    go_enter Tryz.func31, Tryz.ntmps31
    go_wp2_with fail
    go_ret
    exact ⟨rfl, Below.refl _ _⟩

end Go.Proofs.YtimkeblcdodfmaaGreat
