/-
  Package plane: the order of two planes' coefficients; Package plane: what is shown, and the order; Package plane: whether two planes' coefficients are the same; Of equal neighbours the first: plain; The library's Compact at slices of spokeshave/api.Plane: of equal neighbours the first.
-/
import Derived.ChangeKeysEq
import Derived.Test.YthdhakpmhndbfaaK1
import Derived.Test.YthdhakpmhndbfaaK2
import Derived.Test.YthdhakpmhndbfaaK3
import Derived.Test.YthdhakpmhndbfaaK4
import Derived.Test.YthdhakpmhndbfaaK5
import Derived.Test.YthdhakpmhndbfaaK6
import Derived.Test.YthdhakpmhndbfaaK7
import Derived.Test.YthdhakpmhndbfaaK8
namespace Go.Proofs.Ythdhakpmhndbfaa
open Go.RowKit Go.Shelf
attribute [local go_sem] Oper.semAt_some

theorem cmp_int64 (a b : Int) (w : World) :
    Calls Try.prog 86 #[.int .i64 a, .int .i64 b] w fun e w' => e = .returned (.int .i64 (sgnCmp a b)) ∧ w = w' := by
  rcases Int.lt_trichotomy a b with h | rfl | h
  · have H := Lib.hid (sgnCmp_lt h)
    go_enter Try.func86, Try.ntmps86
    go_wp2
    go_ret
    exact ⟨ret_int H.out.symm, rfl⟩
  · have H := Lib.hid (sgnCmp_eq a)
    go_enter Try.func86, Try.ntmps86
    go_wp2
    go_ret
    exact ⟨ret_int H.out.symm, rfl⟩
  · have H := Lib.hid (sgnCmp_gt h)
    go_enter Try.func86, Try.ntmps86
    go_wp2
    go_ret
    exact ⟨ret_int H.out.symm, rfl⟩

/-- The order by the first coefficient that differs. -/
def cmpV (p q : V4) : Int := if p.a ≠ q.a then sgnCmp p.a q.a else if p.b ≠ q.b then sgnCmp p.b q.b else if p.c ≠ q.c then sgnCmp p.c q.c else sgnCmp p.d q.d
theorem cmpV_at {p q : V4} {j : Nat} (hj : j < 4) (h : ∀ i ∈ List.range j, vg p i = vg q i) (hne : vg p j ≠ vg q j) : cmpV p q = sgnCmp (vg p j) (vg q j) := by
  have h0 : 0 < j → p.a = q.a := fun hl => h 0 (List.mem_range.2 hl)
  have h1 : 1 < j → p.b = q.b := fun hl => h 1 (List.mem_range.2 hl)
  have h2 : 2 < j → p.c = q.c := fun hl => h 2 (List.mem_range.2 hl)
  rcases j with _ | _ | _ | _ | j
  · rw [cmpV, if_pos (show p.a ≠ q.a from hne)]; rfl
  · rw [cmpV, if_neg (fun hh => hh (h0 (by omega))), if_pos (show p.b ≠ q.b from hne)]; rfl
  · rw [cmpV, if_neg (fun hh => hh (h0 (by omega))), if_neg (fun hh => hh (h1 (by omega))), if_pos (show p.c ≠ q.c from hne)]; rfl
  · rw [cmpV, if_neg (fun hh => hh (h0 (by omega))), if_neg (fun hh => hh (h1 (by omega))), if_neg (fun hh => hh (h2 (by omega)))]; rfl
  · omega
theorem cmpV_none {p q : V4} (h : ∀ i ∈ List.range 4, vg p i = vg q i) : cmpV p q = 0 := by
  have h0 : p.a = q.a := h 0 (List.mem_range.2 (by omega))
  have h1 : p.b = q.b := h 1 (List.mem_range.2 (by omega))
  have h2 : p.c = q.c := h 2 (List.mem_range.2 (by omega))
  have h3 : p.d = q.d := h 3 (List.mem_range.2 (by omega))
  rw [cmpV, if_neg (fun hh => hh h0), if_neg (fun hh => hh h1), if_neg (fun hh => hh h2), h3, sgnCmp_eq]

theorem range_snoc {k x : Nat} {pre : List Nat} (h : List.range k = pre ++ [x]) : pre = List.range x ∧ k = x + 1 := by
  cases k with
  | zero => simp at h
  | succ j =>
    rw [List.range_succ] at h
    have := List.append_inj' h rfl
    have h2 : j = x := by simpa using this.2
    subst h2
    exact ⟨this.1.symm, rfl⟩

theorem bw5 (w : World) (a b c d e : Obj) : Below w.heap.size w (((((w.alloc a).alloc b).alloc c).alloc d).alloc e) :=
  (bw4 w a b c d).alloc (bw4 w a b c d).size _

set_option maxRecDepth 100000 in
set_option maxHeartbeats 4000000 in
theorem compareP_any (p q : V4) (w : World) :
    Calls Try.prog 63 #[.agg #[.int .i64 p.a, .int .i64 p.b, .int .i64 p.c, .int .i64 p.d], .agg #[.int .i64 q.a, .int .i64 q.b, .int .i64 q.c, .int .i64 q.d]] w fun e w' => e = .returned (.int .i64 (cmpV p q)) ∧ Below w.heap.size w w' := by
  refine (callsIn_wide (n := 6)).1 ?_
  refine callsIn_of_wp_marks Try.func63 rfl trivial ?_ rfl
  simp only [Try.ntmps63, List.size_toArray, List.length_cons, List.length_nil, Nat.reduceAdd, Nat.reduceSub, Array.replicate_succ, Array.replicate_zero, List.push_toArray, List.append_toArray, List.nil_append, List.cons_append]
  gi_wp2_with (refine ⟨trivial, ?_⟩; gi_at_call 78; refine (pairs_in Fence.wide _ trivial rfl p q _).mono ?_; rintro e w' ⟨rfl, rfl⟩)
  obtain ⟨W0, hW0⟩ : ∃ W0, (((((w.alloc (.cells #[.int .i64 p.a, .int .i64 p.b, .int .i64 p.c, .int .i64 p.d] 23)).alloc (.cells #[.int .i64 q.a, .int .i64 q.b, .int .i64 q.c, .int .i64 q.d] 23)).alloc (.cells #[.int .i64 0] 3)).alloc (.cells #[.int .i64 p.a, .int .i64 p.b, .int .i64 p.c, .int .i64 p.d] 22)).alloc (.cells #[.int .i64 q.a, .int .i64 q.b, .int .i64 q.c, .int .i64 q.d] 22)) = W0 := ⟨_, rfl⟩
  have hB0 : Below w.heap.size w W0 := by rw [← hW0]; exact bw5 w _ _ _ _ _
  have kr : Blk W0 (w.heap.size + 1 + 1) #[.int .i64 0] 3 := by rw [← hW0]; exact ((Blk.new' _ _ _ (by simp)).alloc _).alloc _
  have kp : Blk W0 (w.heap.size + 1 + 1 + 1) #[.int .i64 p.a, .int .i64 p.b, .int .i64 p.c, .int .i64 p.d] 22 := by rw [← hW0]; exact (Blk.new' _ _ _ (by simp)).alloc _
  have kq : Blk W0 (w.heap.size + 1 + 1 + 1 + 1) #[.int .i64 q.a, .int .i64 q.b, .int .i64 q.c, .int .i64 q.d] 22 := by rw [← hW0]; exact Blk.new' _ _ _ (by simp)
  have hsz : W0.heap.size = w.heap.size + 1 + 1 + 1 + 1 + 1 := by rw [← hW0]; simp
  rw [hW0]
  clear hW0
  refine wpIn_rangeFunc_ownF rfl (by omega) (gf := 100) (lb := #[.pointer (some ⟨w.heap.size + 1 + 1 + 1, 0, none⟩), .pointer (some ⟨w.heap.size + 1 + 1 + 1 + 1, 0, none⟩)]) rfl trivial (enters_of Try.func100 (by kernel_rfl) rfl)
    (pairs_stops Fence.wide 5 trivial rfl (by omega) (w.heap.size + 1 + 1 + 1) (w.heap.size + 1 + 1 + 1 + 1) (fun b => b = w.heap.size + 1 + 1 + 1 ∨ b = w.heap.size + 1 + 1 + 1 + 1) p q W0 (fun b hb => by omega) kp kq (Or.inl rfl) (Or.inr rfl))
    KeepsAt.trans (KeepsAt.putObj (fun b hb => by omega)) (Below.refl _ _) (fun _ => rfl)
    (fun pre W => (Hid (∀ j ∈ pre, vg p j = vg q j) ∧ Blk W (w.heap.size + 1 + 1) #[.int .i64 0] 3 ∧ W0.heap.size ≤ W.heap.size) ∧ Below w.heap.size w W)
    (fun c pre W => (c = .ret ∧ Hid (∃ pre' x, pre = pre' ++ [x] ∧ (∀ j ∈ pre', vg p j = vg q j) ∧ vg p x ≠ vg q x ∧ Blk W (w.heap.size + 1 + 1) #[.int .i64 (sgnCmp (vg p x) (vg q x))] 3)) ∧ Below w.heap.size w W)
    (OwnFrom.and (Own.from (fun s A B row hs hg hr => ⟨hs.1, hs.2.1.own hg hr, Nat.le_trans hs.2.2 hg.size⟩) _) (ownFrom_below (Nat.le_refl _) (by omega)))
    (fun c => OwnFrom.and (Own.from (fun s A B row hs hg hr => ⟨hs.1, (by obtain ⟨pre', x, e1, e2, e3, e4⟩ := hs.2; exact ⟨pre', x, e1, e2, e3, e4.own hg hr⟩)⟩) _) (ownFrom_below (Nat.le_refl _) (by omega)))
    ⟨⟨(fun j hj => by cases hj), kr, Nat.le_refl _⟩, hB0⟩
    (fun x => { tmps := #[.agg #[.int .i64 p.a, .int .i64 p.b, .int .i64 p.c, .int .i64 p.d], .agg #[.int .i64 q.a, .int .i64 q.b, .int .i64 q.c, .int .i64 q.d], .pointer (some ⟨w.heap.size, 0, none⟩), .pointer (some ⟨w.heap.size + 1, 0, none⟩), .pointer (some ⟨w.heap.size + 1 + 1, 0, none⟩), .int .i64 (vg p x), .int .i64 (vg q x), undef, .agg #[.int .i64 p.a, .int .i64 p.b, .int .i64 p.c, .int .i64 p.d], .agg #[.int .i64 q.a, .int .i64 q.b, .int .i64 q.c, .int .i64 q.d], .func (.func 100) #[] #[.pointer (some ⟨w.heap.size + 1 + 1 + 1, 0, none⟩), .pointer (some ⟨w.heap.size + 1 + 1 + 1 + 1, 0, none⟩)], .int .i64 (vg p x), .int .i64 (vg q x), undef, undef, undef, undef, undef, undef], defers := [] }) ?assign ?body ?done ?stop
  case assign =>
    intro l x W K hK
    unfold encP
    gi_wp2
    exact hK
  case body =>
    rintro l pre k W ⟨⟨hp, kr, hzz⟩, hB⟩ hlt
    by_cases hxy : vg p k = vg q k
    · have hc := fun W' => cmp_int64 (vg p k) (vg q k) W'
      have hz : sgnCmp (vg p k) (vg q k) = 0 := by rw [hxy]; exact sgnCmp_eq _
      rw [hz] at hc
      have HH := Lib.hid hxy
      have HC := Lib.hid hc
      clear hxy hc hz
      gi_wp2_with (refine ⟨trivial, ?_⟩; gi_at_call 86; refine (CallsIn.inRound l (callsIn_wide.2 (HC.out _))).mono ?_; rintro e w' ⟨rfl, rfl⟩)
      exact ⟨KeepsOthers.refl _, KeepsAt.refl _ _, ⟨(fun j hj => (List.mem_append.1 hj).elim (hp.out j) (fun e => by simp at e; subst e; exact HH.out)), kr, hzz⟩, hB⟩
    · have hc := fun W' => cmp_int64 (vg p k) (vg q k) W'
      have hne : (sgnCmp (vg p k) (vg q k) != 0) = true := by
        rcases Int.lt_or_gt_of_ne hxy with h | h
        · rw [sgnCmp_lt h]; rfl
        · rw [sgnCmp_gt h]; rfl
      have HH := Lib.hid hxy
      obtain ⟨n, hn⟩ : ∃ n, sgnCmp (vg p k) (vg q k) = n := ⟨_, rfl⟩
      rw [hn] at hc hne
      have HN := Lib.hid hn
      have HC := Lib.hid hc
      have c0 := kr.cell (i := 0) rfl
      have c1 := kr.frozen 0
      clear hxy hc hn
      gi_wp2_with (refine ⟨trivial, ?_⟩; gi_at_call 86; refine (CallsIn.inRound l (callsIn_wide.2 (HC.out _))).mono ?_; rintro e w' ⟨rfl, rfl⟩)
      refine ⟨KeepsOthers.setCell _ _ _, ⟨rfl, ⟨pre, k, rfl, hp.out, HH.out, ?_⟩⟩, hB.setCell (by simp only; omega) _⟩
      rw [HN.out]
      exact kr.set_eq 0 _ rfl
  case done =>
    rintro D zs W hD rfl ⟨⟨hp, kr, hzz⟩, hB⟩ hK
    have d0 := kr.cell (i := 0) rfl
    have d2 := kr.frozen 0
    gi_wp2
    have hK' := (KeepsOthers.setCell W ⟨w.heap.size + 1 + 1, 0, none⟩ (.int .i64 0)).same D _ hK rfl
    refine ⟨by simp, .inl ⟨_, _, rfl, run_takeDeferred hK', ?_⟩⟩
    have L := (kr.set_eq 0 (.int .i64 0) rfl).own (grownBy_putObj' _ D (.deferred none)) (fun r e => by cases e; exact ⟨_, hK', rfl⟩)
    have z0 := L.cell (i := 0) rfl
    refine ⟨.int .i64 0, ?_, by rw [cmpV_none hp.out], (hB.setCell (p := ⟨w.heap.size + 1 + 1, 0, none⟩) (by simp only; omega) _).trans (belowK_b (w := w) (Nat.le_refl _) _ D _ _ (by omega) hK' rfl rfl)⟩
    simp [results, Try.f63, go_sem, z0]
  case stop =>
    rintro D c pre W hD ⟨k, hk, rfl⟩ ⟨⟨rfl, hs⟩, hB⟩ hK
    obtain ⟨pre', x, e1, e2, e3, e4⟩ := hs.out
    obtain ⟨rfl, rfl⟩ := range_snoc e1
    rw [← cmpV_at (by omega) e2 e3] at e4
    clear hs e1 e2 e3
    gi_wp2
    refine ⟨by simp, .inl ⟨_, _, rfl, run_takeDeferred hK, ?_⟩⟩
    have L := e4.own (grownBy_putObj' _ D (.deferred none)) (fun r e => by cases e; exact ⟨_, hK, rfl⟩)
    have z0 := L.cell (i := 0) rfl
    refine ⟨.int .i64 (cmpV p q), ?_, rfl, hB.trans (belowK_b (w := w) (Nat.le_refl _) W D _ _ (by omega) hK rfl rfl)⟩
    simp [results, Try.f63, go_sem, z0]

end Go.Proofs.Ythdhakpmhndbfaa

namespace Go.Proofs.Ythdhakpmhndbfaa
open Go.RowKit Go.Shelf
attribute [local go_sem] Oper.semAt_some

/-- Of a plane and its opposite the one that is shown. -/
def shownP (q : V4) : V4 := if cmpV q ⟨0, 0, 0, 0⟩ < 0 then ⟨-q.a, -q.b, -q.c, -q.d⟩ else q

set_option maxRecDepth 100000 in
set_option maxHeartbeats 2000000 in
theorem shown_any (a b c d : Int) (w : World) (hr : RightP a b c d) :
    Calls Try.prog 51 #[.agg #[.int .i64 a, .int .i64 b, .int .i64 c, .int .i64 d]] w fun e w' => e = .returned (.agg #[.int .i64 (shownP ⟨a, b, c, d⟩).a, .int .i64 (shownP ⟨a, b, c, d⟩).b, .int .i64 (shownP ⟨a, b, c, d⟩).c, .int .i64 (shownP ⟨a, b, c, d⟩).d]) ∧ Below w.heap.size w w' := by
  obtain ⟨w1, hw1⟩ : ∃ w1, ((w.alloc (.cells #[.int .i64 a, .int .i64 b, .int .i64 c, .int .i64 d] 23)).alloc (.cells #[.int .i64 0, .int .i64 0, .int .i64 0, .int .i64 0] 23)) = w1 := ⟨_, rfl⟩
  have hb1 : Below w.heap.size w w1 := by rw [← hw1]; exact bw2 w _ _
  have k0 : Blk w1 w.heap.size #[.int .i64 a, .int .i64 b, .int .i64 c, .int .i64 d] 23 := by rw [← hw1]; exact (Blk.new w _ _).alloc _
  have k1 : Blk w1 (w.heap.size + 1) #[.int .i64 0, .int .i64 0, .int .i64 0, .int .i64 0] 23 := by rw [← hw1]; exact Blk.new' _ _ _ (by simp)
  have hcp := fun W => compareP_any ⟨a, b, c, d⟩ ⟨0, 0, 0, 0⟩ W
  have c0 := k0.cell (i := 0) rfl
  have c1 := k0.cell (i := 1) rfl
  have c2 := k0.cell (i := 2) rfl
  have c3 := k0.cell (i := 3) rfl
  by_cases hn : cmpV ⟨a, b, c, d⟩ ⟨0, 0, 0, 0⟩ < 0
  · rw [show shownP ⟨a, b, c, d⟩ = ⟨-a, -b, -c, -d⟩ by rw [shownP, if_pos hn]]
    obtain ⟨n, hnn⟩ : ∃ n, cmpV ⟨a, b, c, d⟩ ⟨0, 0, 0, 0⟩ = n := ⟨_, rfl⟩
    rw [hnn] at hcp hn
    have HCP := Lib.hid hcp
    have hin := fun W => opposite_any a b c d W hr
    have HIN := Lib.hid hin
    have hnd : decide (n < 0) = true := decide_eq_true hn
    clear hcp hin hr hnn
    dsimp only
    go_enter Try.func51, Try.ntmps51
    go_wp2_with fail
    refine (HCP.out _).mono ?_
    rintro e w2 ⟨rfl, hb2⟩
    have k0 := k0.kept hb2
    have k1 := k1.kept hb2
    have hb2' := hb1.trans (hb2.mono hb1.size)
    have c0 := k0.cell (i := 0) rfl
    have c1 := k0.cell (i := 1) rfl
    have c2 := k0.cell (i := 2) rfl
    have c3 := k0.cell (i := 3) rfl
    go_wp2_with fail
    refine (HIN.out _).mono ?_
    rintro e w3 ⟨rfl, hb3⟩
    have k1 := k1.kept hb3
    have hb3' := hb2'.trans (hb3.mono hb2'.size)
    have d0 := k1.cell (i := 0) rfl
    have d1 := k1.cell (i := 1) rfl
    have d2 := k1.cell (i := 2) rfl
    have d3 := k1.cell (i := 3) rfl
    have q0 := k1.frozen 0
    have q1 := k1.frozen 1
    have q2 := k1.frozen 2
    have q3 := k1.frozen 3
    go_wp2_with fail
    have L := Blk.put4 k1 (.int .i64 (-a)) (.int .i64 (-b)) (.int .i64 (-c)) (.int .i64 (-d))
    have z0 := L.cell (i := 0) rfl
    have z1 := L.cell (i := 1) rfl
    have z2 := L.cell (i := 2) rfl
    have z3 := L.cell (i := 3) rfl
    exact bodyPost_ret (v := .agg #[.int .i64 (-a), .int .i64 (-b), .int .i64 (-c), .int .i64 (-d)]) (by simp [results, Try.results51, go_sem, z0, z1, z2, z3]) rfl ⟨rfl, (((hb3'.setCell (by simp only; omega) _).setCell (by simp only; omega) _).setCell (by simp only; omega) _).setCell (by simp only; omega) _⟩
  · rw [show shownP ⟨a, b, c, d⟩ = ⟨a, b, c, d⟩ by rw [shownP, if_neg hn]]
    obtain ⟨n, hnn⟩ : ∃ n, cmpV ⟨a, b, c, d⟩ ⟨0, 0, 0, 0⟩ = n := ⟨_, rfl⟩
    rw [hnn] at hcp hn
    have HCP := Lib.hid hcp
    have hnd : decide (n < 0) = false := decide_eq_false hn
    clear hcp hr hnn
    dsimp only
    go_enter Try.func51, Try.ntmps51
    go_wp2_with fail
    refine (HCP.out _).mono ?_
    rintro e w2 ⟨rfl, hb2⟩
    have k0 := k0.kept hb2
    have k1 := k1.kept hb2
    have hb2' := hb1.trans (hb2.mono hb1.size)
    have c0 := k0.cell (i := 0) rfl
    have c1 := k0.cell (i := 1) rfl
    have c2 := k0.cell (i := 2) rfl
    have c3 := k0.cell (i := 3) rfl
    have d0 := k1.cell (i := 0) rfl
    have d1 := k1.cell (i := 1) rfl
    have d2 := k1.cell (i := 2) rfl
    have d3 := k1.cell (i := 3) rfl
    have q0 := k1.frozen 0
    have q1 := k1.frozen 1
    have q2 := k1.frozen 2
    have q3 := k1.frozen 3
    go_wp2_with fail
    have L := Blk.put4 k1 (.int .i64 a) (.int .i64 b) (.int .i64 c) (.int .i64 d)
    have z0 := L.cell (i := 0) rfl
    have z1 := L.cell (i := 1) rfl
    have z2 := L.cell (i := 2) rfl
    have z3 := L.cell (i := 3) rfl
    exact bodyPost_ret (v := .agg #[.int .i64 a, .int .i64 b, .int .i64 c, .int .i64 d]) (by simp [results, Try.results51, go_sem, z0, z1, z2, z3]) rfl ⟨rfl, (((hb2'.setCell (by simp only; omega) _).setCell (by simp only; omega) _).setCell (by simp only; omega) _).setCell (by simp only; omega) _⟩

set_option maxRecDepth 100000 in
set_option maxHeartbeats 2000000 in
theorem shownApi_any (a b c d : Int) (w : World) (ha : InI64 a) (hb : InI64 b) (hc : InI64 c) (hd : InI64 d) :
    Calls Try.prog 15 #[.agg #[.int .i64 a, .int .i64 b, .int .i64 c, .int .i64 d]] w fun e w' => e = .returned (.tuple #[if RightP a b c d then .agg #[.int .i64 (shownP ⟨a, b, c, d⟩).a, .int .i64 (shownP ⟨a, b, c, d⟩).b, .int .i64 (shownP ⟨a, b, c, d⟩).c, .int .i64 (shownP ⟨a, b, c, d⟩).d] else .agg #[.int .i64 0, .int .i64 0, .int .i64 0, .int .i64 0], .int .i64 (errE (decide (RightP a b c d)) 30)]) ∧ Below w.heap.size w w' := by
  obtain ⟨w1, hw1⟩ : ∃ w1, ((w.alloc (.cells #[.int .i64 a, .int .i64 b, .int .i64 c, .int .i64 d] 23)).alloc (.cells #[.int .i64 0, .int .i64 0, .int .i64 0, .int .i64 0] 23)) = w1 := ⟨_, rfl⟩
  have hb1 : Below w.heap.size w w1 := by rw [← hw1]; exact bw2 w _ _
  have k0 : Blk w1 w.heap.size #[.int .i64 a, .int .i64 b, .int .i64 c, .int .i64 d] 23 := by rw [← hw1]; exact (Blk.new w _ _).alloc _
  have k1 : Blk w1 (w.heap.size + 1) #[.int .i64 0, .int .i64 0, .int .i64 0, .int .i64 0] 23 := by rw [← hw1]; exact Blk.new' _ _ _ (by simp)
  have hch := fun W => check_any a b c d W ha hb hc hd
  have c0 := k0.cell (i := 0) rfl
  have c1 := k0.cell (i := 1) rfl
  have c2 := k0.cell (i := 2) rfl
  have c3 := k0.cell (i := 3) rfl
  by_cases hr : RightP a b c d
  · rw [if_pos hr]
    rw [decide_eq_true hr] at hch ⊢
    have HCH := Lib.hid hch
    have hin := fun W => shown_any a b c d W hr
    have HIN := Lib.hid hin
    clear hch hin hr ha hb hc hd
    go_enter Try.func15, Try.ntmps15
    go_wp2_with fail
    refine (HCH.out _).mono ?_
    rintro e w2 ⟨rfl, hb2⟩
    rw [show errE true 30 = 0 from rfl]
    have k0 := k0.kept hb2
    have k1 := k1.kept hb2
    have hb2' := hb1.trans (hb2.mono hb1.size)
    have c0 := k0.cell (i := 0) rfl
    have c1 := k0.cell (i := 1) rfl
    have c2 := k0.cell (i := 2) rfl
    have c3 := k0.cell (i := 3) rfl
    go_wp2_with fail
    refine (HIN.out _).mono ?_
    rintro e w3 ⟨rfl, hb3⟩
    have k1 := k1.kept hb3
    have hb3' := hb2'.trans (hb3.mono hb2'.size)
    have d0 := k1.cell (i := 0) rfl
    have d1 := k1.cell (i := 1) rfl
    have d2 := k1.cell (i := 2) rfl
    have d3 := k1.cell (i := 3) rfl
    have q0 := k1.frozen 0
    have q1 := k1.frozen 1
    have q2 := k1.frozen 2
    have q3 := k1.frozen 3
    go_wp2_with fail
    have L := Blk.put4 k1 (.int .i64 (shownP ⟨a, b, c, d⟩).a) (.int .i64 (shownP ⟨a, b, c, d⟩).b) (.int .i64 (shownP ⟨a, b, c, d⟩).c) (.int .i64 (shownP ⟨a, b, c, d⟩).d)
    have z0 := L.cell (i := 0) rfl
    have z1 := L.cell (i := 1) rfl
    have z2 := L.cell (i := 2) rfl
    have z3 := L.cell (i := 3) rfl
    exact bodyPost_ret (v := .tuple #[.agg #[.int .i64 (shownP ⟨a, b, c, d⟩).a, .int .i64 (shownP ⟨a, b, c, d⟩).b, .int .i64 (shownP ⟨a, b, c, d⟩).c, .int .i64 (shownP ⟨a, b, c, d⟩).d], .int .i64 0]) (by simp [results, Try.results15, go_sem, z0, z1, z2, z3]) rfl ⟨rfl, (((hb3'.setCell (by simp only; omega) _).setCell (by simp only; omega) _).setCell (by simp only; omega) _).setCell (by simp only; omega) _⟩

  · rw [if_neg hr]
    rw [decide_eq_false hr] at hch ⊢
    have HCH := Lib.hid hch
    clear hch hr ha hb hc hd
    go_enter Try.func15, Try.ntmps15
    go_wp2_with fail
    refine (HCH.out _).mono ?_
    rintro e w2 ⟨rfl, hb2⟩
    rw [show errE false 30 = 30 from rfl]
    have k1 := k1.kept hb2
    have hb2' := hb1.trans (hb2.mono hb1.size)
    have d0 := k1.cell (i := 0) rfl
    have d1 := k1.cell (i := 1) rfl
    have d2 := k1.cell (i := 2) rfl
    have d3 := k1.cell (i := 3) rfl
    have q0 := k1.frozen 0
    have q1 := k1.frozen 1
    have q2 := k1.frozen 2
    have q3 := k1.frozen 3
    go_wp2_with fail
    have L := Blk.put4 k1 (.int .i64 0) (.int .i64 0) (.int .i64 0) (.int .i64 0)
    have z0 := L.cell (i := 0) rfl
    have z1 := L.cell (i := 1) rfl
    have z2 := L.cell (i := 2) rfl
    have z3 := L.cell (i := 3) rfl
    exact bodyPost_ret (v := .tuple #[.agg #[.int .i64 0, .int .i64 0, .int .i64 0, .int .i64 0], .int .i64 30]) (by simp [results, Try.results15, go_sem, z0, z1, z2, z3]) rfl ⟨rfl, (((hb2'.setCell (by simp only; omega) _).setCell (by simp only; omega) _).setCell (by simp only; omega) _).setCell (by simp only; omega) _⟩

end Go.Proofs.Ythdhakpmhndbfaa

namespace Go.Proofs.Ythdhakpmhndbfaa
open Go.RowKit Go.Shelf
attribute [local go_sem] Oper.semAt_some

theorem eqPlane (p q : V4) (w : World) : (Op.equalIn 10000 23 (.agg #[.int .i64 p.a, .int .i64 p.b, .int .i64 p.c, .int .i64 p.d]) (.agg #[.int .i64 q.a, .int .i64 q.b, .int .i64 q.c, .int .i64 q.d])).run Try.prog w = .ok (decide (p = q)) w := by
  have u3 := Try.underlying2
  have a3 := Try.isAgg2
  have z3 := Try.sizeOf2
  rw [show (10000 : Nat) = 9999 + 1 from rfl, Op.equalIn]
  simp only [Sem.run_bind, run_underlying Try.underlying23, Result.andThen_ok]
  simp only [Std.Legacy.Range.forIn_eq_forIn_range', Std.Legacy.Range.size, Nat.sub_zero, Nat.add_sub_cancel, Nat.div_one, List.range'_succ, List.range'_zero, List.forIn_cons, List.forIn_nil]
  go_simp
  obtain ⟨a, b, c, d⟩ := p
  obtain ⟨e, f, g, h⟩ := q
  by_cases h1 : a = e <;> by_cases h2 : b = f <;> by_cases h3 : c = g <;> by_cases h4 : d = h <;> simp [h1, h2, h3, h4]

end Go.Proofs.Ythdhakpmhndbfaa

namespace Go.Proofs.Ythdhakpmhndbfaa
open Go.RowKit

theorem gB_refl (w : World) (r : Option Nat) : w.grownBy w r := ⟨rfl, rfl, rfl, Nat.le_refl _, fun _ _ _ => rfl⟩
theorem gB_trans {a b c : World} {r : Option Nat} (h : a.grownBy b r) (k : b.grownBy c r) : a.grownBy c r :=
  ⟨k.os.trans h.os, k.tape.trans h.tape, k.output.trans h.output, Nat.le_trans h.size k.size, fun i hi hne => (k.block i (Nat.lt_of_lt_of_le hi h.size) hne).trans (h.block i hi hne)⟩
theorem gB_below {a w w' : World} {r : Option Nat} (h : a.grownBy w r) (hb : Below w.heap.size w w') : a.grownBy w' r :=
  gB_trans h ⟨hb.os, hb.tape, hb.output, hb.size, fun k hk _ => hb.block k hk⟩
theorem gB_setCell {a w : World} {B : Nat} (h : a.grownBy w (some B)) (o : Nat) (v : Value) : a.grownBy (w.setCell ⟨B, o, none⟩ v) (some B) :=
  gB_trans h ⟨rfl, rfl, rfl, by simp [World.setCell], fun k hk hne => Below.heap_setCell _ _ _ _ (fun e => hne (by rw [e]))⟩
theorem gB_setCells {a : World} {B : Nat} : ∀ (vs : List Value) (o : Nat) (w : World), a.grownBy w (some B) → a.grownBy (w.setCells B o vs) (some B)
  | [], _, _, h => h
  | v :: r, o, w, h => gB_setCells r (o + 1) _ (gB_setCell h o v)
/-- What has turned lies among the call's own blocks. -/
theorem gB_own {a w : World} {B N : Nat} (h : a.grownBy w (some B)) (hN : N ≤ a.heap.size) (hB : N ≤ B) : Below N a w :=
  ⟨h.os, h.tape, h.output, h.size, fun k hk => h.block k (by omega) (fun e => by cases e; omega)⟩

/-- Of the first m those that are not equal to the one before them. -/
def keptV (l : List V4) : Nat → List V4
  | 0 => []
  | m + 1 => match l[m]? with
    | none => keptV l m
    | some q => if m ≠ 0 ∧ l[m - 1]? = some q then keptV l m else keptV l m ++ [q]
theorem keptV_one (l : List V4) : keptV l 1 = l.take 1 := by
  cases l with
  | nil => rfl
  | cons x r => simp [keptV]
theorem keptV_same {l : List V4} {m : Nat} {q : V4} (h : l[m + 1]? = some q) (h' : l[m]? = some q) : keptV l (m + 1 + 1) = keptV l (m + 1) := by
  rw [keptV, h]; simp [h']
theorem keptV_other {l : List V4} {m : Nat} {q p : V4} (h : l[m + 1]? = some q) (h' : l[m]? = some p) (hne : q ≠ p) : keptV l (m + 1 + 1) = keptV l (m + 1) ++ [q] := by
  rw [keptV, h]; simp [h', Ne.symm hne]
theorem keptV_few {l : List V4} {n : Nat} (hl : l.length = n) (hn : n < 2) : keptV l n = l := by
  match l, n, hl, hn with
  | [], _, rfl, _ => rfl
  | [x], _, rfl, _ => simp [keptV]
end Go.Proofs.Ythdhakpmhndbfaa

namespace Go.Proofs.Ythdhakpmhndbfaa
open Go.RowKit Go.Shelf
attribute [local go_sem] Oper.semAt_some

theorem clearP_run {W : World} {B kk m c : Nat} {R : List V4} (hm : 0 < m) (hr : RowV W B R) (hlen : R.length = kk + m) :
    ∃ W', (∀ ty, (Builtin.clear_ #[61] ty #[.slice (some ⟨B, kk * 4, none⟩) m c]).run Try.prog W = .ok (.tuple #[]) W') ∧ RowV W' B (R.take kk) ∧ W.grownBy W' (some B) := by
  have hex : ∀ j, j < m * 4 → (W.cell? ⟨B, kk * 4 + j, none⟩).isSome = true ∧ W.frozen? ⟨B, kk * 4 + j, none⟩ = false := by
    intro j hj
    have hi : kk + j / 4 < R.length := by omega
    obtain ⟨⟨h0, h1, h2, h3⟩, f0, f1, f2, f3⟩ := hr.2 (kk + j / 4) _ (List.getElem?_eq_getElem hi)
    have h4 : j % 4 = 0 ∨ j % 4 = 1 ∨ j % 4 = 2 ∨ j % 4 = 3 := by omega
    rcases h4 with e | e | e | e
    · have ej : kk * 4 + j = (kk + j / 4) * 4 := by omega
      rw [ej, h0, f0]; exact ⟨rfl, rfl⟩
    · have ej : kk * 4 + j = (kk + j / 4) * 4 + 1 := by omega
      rw [ej, h1, f1]; exact ⟨rfl, rfl⟩
    · have ej : kk * 4 + j = (kk + j / 4) * 4 + 2 := by omega
      rw [ej, h2, f2]; exact ⟨rfl, rfl⟩
    · have ej : kk * 4 + j = (kk + j / 4) * 4 + 3 := by omega
      rw [ej, h3, f3]; exact ⟨rfl, rfl⟩
  obtain ⟨zs, hzs⟩ : ∃ zs, (Builtin.zeroCells (Value.agg #[.int .i64 0, .int .i64 0, .int .i64 0, .int .i64 0]).cells m).toList = zs := ⟨_, rfl⟩
  have hzl : zs.length = m * 4 := by rw [← hzs]; simp [Builtin.zeroCells, Value.cells]
  have hz1 : ∀ v ∈ zs, v.oneCell' = true := by
    intro v hv
    rw [← hzs] at hv
    unfold Builtin.zeroCells at hv
    simp only [Array.toList_map, Array.toList_range, List.mem_map, List.mem_range] at hv
    obtain ⟨i, _, rfl⟩ := hv
    simp only [Value.cells]
    have h4 : i % 4 = 0 ∨ i % 4 = 1 ∨ i % 4 = 2 ∨ i % 4 = 3 := by omega
    rcases h4 with e | e | e | e <;> simp [e, Value.oneCell']
  have hst := run_storeCells_cells (P := Try.prog) B (kk * 4) zs 0 W (by rw [hzl]; exact fun j hj => (hex j hj).1) (by rw [hzl]; exact fun j hj => (hex j hj).2) hz1
  simp only [Nat.add_zero] at hst
  have hzv : ∀ W, (zeroValue 23).run Try.prog W = .ok (.agg #[.int .i64 0, .int .i64 0, .int .i64 0, .int .i64 0]) W := Try.zeroValue23
  have hrun : ∀ ty, (Builtin.clear_ #[61] ty #[.slice (some ⟨B, kk * 4, none⟩) m c]).run Try.prog W = .ok (.tuple #[]) (W.setCells B (kk * 4) zs) := by
    intro ty
    obtain ⟨m', rfl⟩ : ∃ m', m = m' + 1 := ⟨m - 1, by omega⟩
    simp [Builtin.clear_, run_underlying Try.underlying61, hzv, hzs, hst]
  have hW' : RowV (W.setCells B (kk * 4) zs) B (R.take kk) := by
    refine ⟨Nat.lt_of_lt_of_le hr.1 (gB_setCells zs (kk * 4) W (gB_refl W _)).size, fun i q hi => ?_⟩
    have hik : i < kk := by
      rcases Nat.lt_or_ge i kk with h | h
      · exact h
      · rw [List.getElem?_take_eq_none h] at hi; cases hi
    rw [List.getElem?_take_of_lt hik] at hi
    obtain ⟨⟨h0, h1, h2, h3⟩, f0, f1, f2, f3⟩ := hr.2 i q hi
    have hc : ∀ o, o < kk * 4 → (W.setCells B (kk * 4) zs).cell? ⟨B, o, none⟩ = W.cell? ⟨B, o, none⟩ := fun o ho => World.cell?_setCells_out B zs (kk * 4) W ⟨B, o, none⟩ (fun _ _ => Or.inl ho)
    have hf : ∀ o, (W.setCells B (kk * 4) zs).frozen? ⟨B, o, none⟩ = W.frozen? ⟨B, o, none⟩ := fun o => World.frozen?_setCells B zs (kk * 4) W _
    exact ⟨⟨(hc _ (by omega)).trans h0, (hc _ (by omega)).trans h1, (hc _ (by omega)).trans h2, (hc _ (by omega)).trans h3⟩, (hf _).trans f0, (hf _).trans f1, (hf _).trans f2, (hf _).trans f3⟩
  exact ⟨_, hrun, hW', gB_setCells zs (kk * 4) W (gB_refl W _)⟩

set_option maxRecDepth 100000 in
set_option maxHeartbeats 8000000 in
theorem compactP_any (B n cap : Nat) (l : List V4) (w : World) (hl : l.length = n) (hr : RowV w B l) (hn : n ≤ 1000000000) (hcap : n ≤ cap) :
    Calls Try.prog 89 #[.slice (some ⟨B, 0, none⟩) n cap] w fun e w' => e = .returned (.slice (some ⟨B, 0, none⟩) (keptV l n).length cap) ∧ RowV w' B (keptV l n) ∧ w.grownBy w' (some B) := by
  have HL := Lib.hid hl
  have HR0 := Lib.hid hr
  clear hl hr
  by_cases hn2 : n < 2
  · have hn2' : (n : Int) < 2 := by omega
    have hk : keptV l n = l := keptV_few HL.out hn2
    have HK := Lib.hid hk
    have HKL := Lib.hid (show (keptV l n).length = n by rw [hk]; exact HL.out)
    clear hk
    go_enter Try.func89, Try.ntmps89
    go_wp2_with fail
    go_ret
    refine ⟨by rw [HKL.out]; rfl, ?_, gB_refl _ _⟩
    rw [HK.out]; exact HR0.out
  · have hn2' : ¬ (n : Int) < 2 := by omega
    go_enter Try.func89, Try.ntmps89
    go_wp2_with fail
    go_loopg [3] (n - 1) (fun gk v3 wr => ∃ k : Nat, 1 ≤ k ∧ k ≤ n ∧ gk = n - k ∧ v3 = .int .i64 (k : Int) ∧ Hid (keptV l k = l.take k) ∧ Hid (RowV wr B l) ∧ Hid (w.grownBy wr (some B)))
    case atStart => exact ⟨1, by decide, by omega, rfl, rfl, keptV_one _, HR0.out, gB_refl _ _⟩
    case round =>
      obtain ⟨k, hk1, hkn, hgk, rfl, HKP, HRW, HGB⟩ := hrel
      have HGK := Lib.hid hgk
      clear hgk
      by_cases hlt : k < n
      · have hki : (k : Int) < (n : Int) := by omega
        obtain ⟨j, hj⟩ : ∃ j, j + 1 = k := ⟨k - 1, by omega⟩
        have HJ := Lib.hid hj
        have e1 : wrap64 ((k : Int) - 1) = (j : Int) := by unfold wrap64; omega
        have hjn : (j : Int) < (n : Int) := by omega
        have hxk : k < l.length := by rw [HL.out]; exact hlt
        have hyj : j < l.length := by rw [HL.out]; omega
        obtain ⟨x, hx⟩ : ∃ x, l[k]? = some x := ⟨_, List.getElem?_eq_getElem hxk⟩
        obtain ⟨y, hy⟩ : ∃ y, l[j]? = some y := ⟨_, List.getElem?_eq_getElem hyj⟩
        have HKX := Lib.hid hx
        have HJY := Lib.hid hy
        clear hx hy hj hxk hyj
        generalize wr = wo at *
        go_upto_region 6 with fail
        go_cut [25] from 16 to 25 (fun v25 wx => v25 = .bool (decide (x = y)) ∧ Below wo.heap.size wo wx)
        case first =>
          have heq := fun w => eqPlane x y w
          refine wp_region_pure' (fun ix => match ix with | 0 => .slice (some ⟨B, 0, none⟩) n cap | 1 => .int .i64 (k : Int) | 2 => .pointer (some ⟨B, k * 4, none⟩) | 3 => .agg #[.int .i64 x.a, .int .i64 x.b, .int .i64 x.c, .int .i64 x.d] | 4 => .slice (some ⟨B, 0, none⟩) n cap | 5 => .int .i64 (k : Int) | 6 => .int .i64 (j : Int) | 7 => .pointer (some ⟨B, j * 4, none⟩) | 8 => .agg #[.int .i64 y.a, .int .i64 y.b, .int .i64 y.c, .int .i64 y.d] | _ => .bool (decide (x = y))) (by kernel_rfl) (by kernel_rfl) ?_ ?_
          · rintro ix hx f ww hS hd
            have hR := HRW.out.of_block hS.size (hS.block B HRW.out.1)
            obtain ⟨⟨c0, c1, c2, c3⟩, _⟩ := hR.2 k x HKX.out
            obtain ⟨⟨d0, d1, d2, d3⟩, _⟩ := hR.2 j y HJY.out
            rcases ix with _ | _ | _ | _ | _ | _ | _ | _ | _ | _ | ix
            · refine wpOp_list rfl ?_
              simp only [tmOf, putAll, List.map_cons, List.map_nil, List.setIfInBounds_toArray, List.set_cons_zero, List.set_cons_succ]
              go_wp2
              simp [upd, Below.refl]
            · refine wpOp_list rfl ?_
              simp only [tmOf, putAll, List.map_cons, List.map_nil, List.setIfInBounds_toArray, List.set_cons_zero, List.set_cons_succ]
              go_wp2
              simp [upd, Below.refl]
            · have g0 : f 0 = .slice (some ⟨B, 0, none⟩) n cap := hd 0 (by kernel_rfl)
              have g1 : f 1 = .int .i64 (k : Int) := hd 1 (by kernel_rfl)
              refine wpOp_list rfl ?_
              simp only [tmOf, putAll, List.map_cons, List.map_nil, List.setIfInBounds_toArray, List.set_cons_zero, List.set_cons_succ]
              go_wp2
              simp [upd, g0, g1, Below.refl]
            · have g2 : f 2 = .pointer (some ⟨B, k * 4, none⟩) := hd 2 (by kernel_rfl)
              refine wpOp_list rfl ?_
              simp only [tmOf, putAll, List.map_cons, List.map_nil, List.setIfInBounds_toArray, List.set_cons_zero, List.set_cons_succ]
              go_wp2
              simp [upd, g2, Below.refl]
            · refine wpOp_list rfl ?_
              simp only [tmOf, putAll, List.map_cons, List.map_nil, List.setIfInBounds_toArray, List.set_cons_zero, List.set_cons_succ]
              go_wp2
              simp [upd, Below.refl]
            · refine wpOp_list rfl ?_
              simp only [tmOf, putAll, List.map_cons, List.map_nil, List.setIfInBounds_toArray, List.set_cons_zero, List.set_cons_succ]
              go_wp2
              simp [upd, Below.refl]
            · have g5 : f 5 = .int .i64 (k : Int) := hd 5 (by kernel_rfl)
              refine wpOp_list rfl ?_
              simp only [tmOf, putAll, List.map_cons, List.map_nil, List.setIfInBounds_toArray, List.set_cons_zero, List.set_cons_succ]
              go_wp2
              simp [upd, g5, Below.refl]
              have := HJ.out
              omega
            · have g4 : f 4 = .slice (some ⟨B, 0, none⟩) n cap := hd 4 (by kernel_rfl)
              have g6 : f 6 = .int .i64 (j : Int) := hd 6 (by kernel_rfl)
              refine wpOp_list rfl ?_
              simp only [tmOf, putAll, List.map_cons, List.map_nil, List.setIfInBounds_toArray, List.set_cons_zero, List.set_cons_succ]
              go_wp2
              simp [upd, g4, g6, Below.refl]
            · have g7 : f 7 = .pointer (some ⟨B, j * 4, none⟩) := hd 7 (by kernel_rfl)
              refine wpOp_list rfl ?_
              simp only [tmOf, putAll, List.map_cons, List.map_nil, List.setIfInBounds_toArray, List.set_cons_zero, List.set_cons_succ]
              go_wp2
              simp [upd, g7, Below.refl]
            · have g3 : f 3 = .agg #[.int .i64 x.a, .int .i64 x.b, .int .i64 x.c, .int .i64 x.d] := hd 3 (by kernel_rfl)
              have g8 : f 8 = .agg #[.int .i64 y.a, .int .i64 y.b, .int .i64 y.c, .int .i64 y.d] := hd 8 (by kernel_rfl)
              refine wpOp_list rfl ?_
              simp only [tmOf, putAll, List.map_cons, List.map_nil, List.setIfInBounds_toArray, List.set_cons_zero, List.set_cons_succ]
              go_wp2
              simp [upd, g3, g8, Below.refl]
            · simp only [List.length_cons, List.length_nil] at hx; omega
          · rintro f ww hS hd
            have g9 : f 9 = .bool (decide (x = y)) := hd 9 (by decide)
            simp only [tmOf, putAll, List.map_cons, List.map_nil, List.setIfInBounds_toArray, List.set_cons_zero, List.set_cons_succ]
            refine ‹∀ (a' : Act) (w' : World), Met _ a' w' → _› _ _ ?_
            go_meet
            case rel => exact ⟨g9, hS⟩
        case rest =>
        obtain ⟨rfl, hbx⟩ := hcut
        by_cases hxy : x = y
        · have HXY := Lib.hid hxy
          rw [decide_eq_true hxy]
          clear hxy
          have hRx := HRW.out.of_block hbx.size (hbx.block B HRW.out.1)
          have HRX := Lib.hid hRx
          have HGX := Lib.hid (gB_below HGB.out hbx)
          clear hRx hbx HRW HGB
          go_wp2_with fail
          obtain ⟨M, hM⟩ : ∃ M, n - k = M := ⟨_, rfl⟩
          obtain ⟨CM, hCM⟩ : ∃ M, cap - k = M := ⟨_, rfl⟩
          rw [hM, hCM]
          have HM := Lib.hid (show n = k + M by omega)
          have hMn : M ≤ 1000000000 := by omega
          have hM1 : 1 ≤ M := by omega
          clear hM hCM
          go_loopg [3, 5] (M - 1) (fun gk v3 v5 wx => ∃ (m kk : Nat) (R : List V4), 1 ≤ m ∧ m ≤ M ∧ gk = M - m ∧ v5 = .int .i64 (m : Int) ∧ v3 = .int .i64 (kk : Int) ∧ Hid (1 ≤ kk ∧ kk < k + m ∧ (keptV l (k + m)).length = kk ∧ R.length = n ∧ R.take kk = keptV l (k + m) ∧ ∀ i, k + m ≤ i + 1 → R[i]? = l[i]?) ∧ Hid (RowV wx B R) ∧ Hid (w.grownBy wx (some B)))
          case atStart =>
            refine ⟨1, k, l, by decide, hM1, rfl, rfl, rfl, ⟨hk1, by omega, ?_, HL.out, ?_, fun _ _ => rfl⟩, HRX.out, HGX.out⟩
            · obtain rfl := HJ.out
              rw [keptV_same HKX.out (by rw [HXY.out]; exact HJY.out), HKP.out, List.length_take, HL.out]; omega
            · obtain rfl := HJ.out
              rw [keptV_same HKX.out (by rw [HXY.out]; exact HJY.out), HKP.out]
          case round =>
            clear HRX HGX e1 hjn HKX HJY HXY HKP HJ hlt hki
            obtain ⟨m, kk, R, hm1, hmM, hgk2, rfl, rfl, HK, HRX, HGX⟩ := hrel
            have HGK2 := Lib.hid hgk2
            clear hgk2
            by_cases hlt2 : m < M
            · have hmi : (m : Int) < (M : Int) := by omega
              obtain ⟨p, hp⟩ : ∃ p, p + 1 = m := ⟨m - 1, by omega⟩
              have HP := Lib.hid hp
              have e1 : wrap64 ((m : Int) - 1) = (p : Int) := by unfold wrap64; omega
              have hpM : (p : Int) < (M : Int) := by omega
              have hum : k + m < R.length := by rw [HK.out.2.2.2.1, HM.out]; omega
              have hvm : k + p < R.length := by rw [HK.out.2.2.2.1, HM.out]; omega
              obtain ⟨u, hu⟩ : ∃ x, R[k + m]? = some x := ⟨_, List.getElem?_eq_getElem hum⟩
              obtain ⟨v, hv⟩ : ∃ x, R[k + p]? = some x := ⟨_, List.getElem?_eq_getElem hvm⟩
              have hul : l[k + m]? = some u := by rw [← HK.out.2.2.2.2.2 (k + m) (by omega)]; exact hu
              have hvl : l[k + p]? = some v := by rw [← HK.out.2.2.2.2.2 (k + p) (by omega)]; exact hv
              have ea : (k + m) * 4 = k * 4 + m * 4 := by omega
              have eb : (k + p) * 4 = k * 4 + p * 4 := by omega
              have HU := Lib.hid hu
              have HV := Lib.hid hv
              have HUL := Lib.hid hul
              have HVL := Lib.hid hvl
              clear hu hv hp hum hvm hul hvl
              generalize wr = wq at *
              have EA := Lib.hid ea
              have EB := Lib.hid eb
              clear ea eb
              go_upto_region 11 with fail
              go_cut [44] from 35 to 44 (fun v44 wx => v44 = .bool (!decide (u = v)) ∧ Below wq.heap.size wq wx)
              case first =>
                have heq := fun w => eqPlane u v w
                have ea := EA.out
                have eb := EB.out
                refine wp_region_pure' (fun ix => match ix with | 0 => .slice (some ⟨B, k * 4, none⟩) M CM | 1 => .int .i64 (m : Int) | 2 => .pointer (some ⟨B, k * 4 + m * 4, none⟩) | 3 => .agg #[.int .i64 u.a, .int .i64 u.b, .int .i64 u.c, .int .i64 u.d] | 4 => .slice (some ⟨B, k * 4, none⟩) M CM | 5 => .int .i64 (m : Int) | 6 => .int .i64 (p : Int) | 7 => .pointer (some ⟨B, k * 4 + p * 4, none⟩) | 8 => .agg #[.int .i64 v.a, .int .i64 v.b, .int .i64 v.c, .int .i64 v.d] | _ => .bool (!decide (u = v))) (by kernel_rfl) (by kernel_rfl) ?_ ?_
                · rintro ix hx f ww hS hd
                  have hR := HRX.out.of_block hS.size (hS.block B HRX.out.1)
                  obtain ⟨⟨c0, c1, c2, c3⟩, _⟩ := hR.2 (k + m) u HU.out
                  obtain ⟨⟨d0, d1, d2, d3⟩, _⟩ := hR.2 (k + p) v HV.out
                  rw [ea] at c0 c1 c2 c3
                  rw [eb] at d0 d1 d2 d3
                  rcases ix with _ | _ | _ | _ | _ | _ | _ | _ | _ | _ | ix
                  · refine wpOp_list rfl ?_
                    simp only [tmOf, putAll, List.map_cons, List.map_nil, List.setIfInBounds_toArray, List.set_cons_zero, List.set_cons_succ]
                    go_wp2
                    simp [upd, Below.refl]
                  · refine wpOp_list rfl ?_
                    simp only [tmOf, putAll, List.map_cons, List.map_nil, List.setIfInBounds_toArray, List.set_cons_zero, List.set_cons_succ]
                    go_wp2
                    simp [upd, Below.refl]
                  · have g0 : f 0 = .slice (some ⟨B, k * 4, none⟩) M CM := hd 0 (by kernel_rfl)
                    have g1 : f 1 = .int .i64 (m : Int) := hd 1 (by kernel_rfl)
                    refine wpOp_list rfl ?_
                    simp only [tmOf, putAll, List.map_cons, List.map_nil, List.setIfInBounds_toArray, List.set_cons_zero, List.set_cons_succ]
                    go_wp2
                    simp [upd, g0, g1, Below.refl]
                  · have g2 : f 2 = .pointer (some ⟨B, k * 4 + m * 4, none⟩) := hd 2 (by kernel_rfl)
                    refine wpOp_list rfl ?_
                    simp only [tmOf, putAll, List.map_cons, List.map_nil, List.setIfInBounds_toArray, List.set_cons_zero, List.set_cons_succ]
                    go_wp2
                    simp [upd, g2, Below.refl]
                  · refine wpOp_list rfl ?_
                    simp only [tmOf, putAll, List.map_cons, List.map_nil, List.setIfInBounds_toArray, List.set_cons_zero, List.set_cons_succ]
                    go_wp2
                    simp [upd, Below.refl]
                  · refine wpOp_list rfl ?_
                    simp only [tmOf, putAll, List.map_cons, List.map_nil, List.setIfInBounds_toArray, List.set_cons_zero, List.set_cons_succ]
                    go_wp2
                    simp [upd, Below.refl]
                  · have g5 : f 5 = .int .i64 (m : Int) := hd 5 (by kernel_rfl)
                    refine wpOp_list rfl ?_
                    simp only [tmOf, putAll, List.map_cons, List.map_nil, List.setIfInBounds_toArray, List.set_cons_zero, List.set_cons_succ]
                    go_wp2
                    simp [upd, g5, Below.refl]
                    have := HP.out
                    omega
                  · have g4 : f 4 = .slice (some ⟨B, k * 4, none⟩) M CM := hd 4 (by kernel_rfl)
                    have g6 : f 6 = .int .i64 (p : Int) := hd 6 (by kernel_rfl)
                    refine wpOp_list rfl ?_
                    simp only [tmOf, putAll, List.map_cons, List.map_nil, List.setIfInBounds_toArray, List.set_cons_zero, List.set_cons_succ]
                    go_wp2
                    simp [upd, g4, g6, Below.refl]
                  · have g7 : f 7 = .pointer (some ⟨B, k * 4 + p * 4, none⟩) := hd 7 (by kernel_rfl)
                    refine wpOp_list rfl ?_
                    simp only [tmOf, putAll, List.map_cons, List.map_nil, List.setIfInBounds_toArray, List.set_cons_zero, List.set_cons_succ]
                    go_wp2
                    simp [upd, g7, Below.refl]
                  · have g3 : f 3 = .agg #[.int .i64 u.a, .int .i64 u.b, .int .i64 u.c, .int .i64 u.d] := hd 3 (by kernel_rfl)
                    have g8 : f 8 = .agg #[.int .i64 v.a, .int .i64 v.b, .int .i64 v.c, .int .i64 v.d] := hd 8 (by kernel_rfl)
                    refine wpOp_list rfl ?_
                    simp only [tmOf, putAll, List.map_cons, List.map_nil, List.setIfInBounds_toArray, List.set_cons_zero, List.set_cons_succ]
                    go_wp2
                    simp [upd, g3, g8, Below.refl]
                  · simp only [List.length_cons, List.length_nil] at hx; omega
                · rintro f ww hS hd
                  have g9 : f 9 = .bool (!decide (u = v)) := hd 9 (by decide)
                  simp only [tmOf, putAll, List.map_cons, List.map_nil, List.setIfInBounds_toArray, List.set_cons_zero, List.set_cons_succ]
                  refine ‹∀ (a' : Act) (w' : World), Met _ a' w' → _› _ _ ?_
                  go_meet
                  case rel => exact ⟨g9, hS⟩
              case rest =>
              obtain ⟨rfl, hbx⟩ := hcut
              have hRx := HRX.out.of_block hbx.size (hbx.block B HRX.out.1)
              have HRY := Lib.hid hRx
              have HGY := Lib.hid (gB_below HGX.out hbx)
              clear hRx hbx HRX HGX
              by_cases huv : u = v
              · have HE := Lib.hid huv
                rw [decide_eq_true huv]
                clear huv
                go_wp2_with fail
                go_roundg (M - (m + 1))
                case measure => rw [HGK2.out]; omega
                case rel =>
                  obtain ⟨h1, h2, h3, h4, h5, h6⟩ := HK.out
                  obtain rfl := HP.out
                  have hsm : keptV l (k + (p + 1 + 1)) = keptV l (k + (p + 1)) := keptV_same (m := k + p) HUL.out (by rw [HE.out]; exact HVL.out)
                  exact ⟨p + 1 + 1, kk, R, by omega, by omega, rfl, by go_num, rfl, ⟨h1, by omega, by rw [hsm]; exact h3, h4, by rw [hsm]; exact h5, fun i hi => h6 i (by omega)⟩, HRY.out, HGY.out⟩
              · have HE := Lib.hid huv
                rw [decide_eq_false huv]
                clear huv
                have hkn' : kk < R.length := by have h4 := HK.out.2.2.2.1; have h2 := HK.out.2.1; have := HM.out; omega
                obtain ⟨z, hz⟩ : ∃ z, R[kk]? = some z := ⟨_, List.getElem?_eq_getElem hkn'⟩
                obtain ⟨⟨c0, c1, c2, c3⟩, _⟩ := HRY.out.2 (k + m) u HU.out
                rw [EA.out] at c0 c1 c2 c3
                obtain ⟨⟨d0, d1, d2, d3⟩, f0, f1, f2, f3⟩ := HRY.out.2 kk z hz
                have hki2 : (kk : Int) < (n : Int) := by have h4 := HK.out.2.2.2.1; omega
                obtain ⟨wz, hwz⟩ : ∃ w', ((((wc.setCell ⟨B, kk * 4, none⟩ (.int .i64 u.a)).setCell ⟨B, kk * 4 + 1, none⟩ (.int .i64 u.b)).setCell ⟨B, kk * 4 + 2, none⟩ (.int .i64 u.c)).setCell ⟨B, kk * 4 + 3, none⟩ (.int .i64 u.d)) = w' := ⟨_, rfl⟩
                have hRz : RowV wz B (R.set kk u) := by rw [← hwz]; exact HRY.out.set hkn' u
                have hGz : w.grownBy wz (some B) := by rw [← hwz]; exact gB_setCell (gB_setCell (gB_setCell (gB_setCell HGY.out _ _) _ _) _ _) _ _
                have HRZ := Lib.hid hRz
                have HGZ := Lib.hid hGz
                have HKN := Lib.hid hkn'
                clear hRz hGz hkn' hz HRY HGY
                go_wp2_with fail
                go_roundg (M - (m + 1))
                case measure => rw [HGK2.out]; omega
                case rel =>
                  obtain ⟨h1, h2, h3, h4, h5, h6⟩ := HK.out
                  obtain rfl := HP.out
                  have hsn : keptV l (k + (p + 1 + 1)) = keptV l (k + (p + 1)) ++ [u] := keptV_other (m := k + p) HUL.out HVL.out HE.out
                  refine ⟨p + 1 + 1, kk + 1, R.set kk u, by omega, by omega, rfl, by go_num, by go_num, ⟨by omega, by omega, by rw [hsn, List.length_append, h3]; rfl, by rw [List.length_set]; exact h4, ?_, fun i hi => ?_⟩, HRZ.out, HGZ.out⟩
                  · rw [hsn, ← h5, List.take_add_one, List.getElem?_set_self HKN.out, List.take_set_of_le (Nat.le_refl _)]; rfl
                  · rw [List.getElem?_set_ne (by omega)]; exact h6 i (by omega)
            · have hmi : ¬ (m : Int) < (M : Int) := by omega
              obtain rfl : m = M := by omega
              obtain ⟨h1, h2, h3, h4, h5, h6⟩ := HK.out
              have hkm : k + m = n := HM.out.symm
              rw [hkm] at h3 h5 h2
              have HKE := Lib.hid (And.intro h3 h5)
              have hkn2 : kk < n := h2
              have hki2 : (kk : Int) < (n : Int) := by omega
              have hki3 : (kk : Int) ≤ (n : Int) := by omega
              have hki4 : (kk : Int) ≤ (cap : Int) := by omega
              have hrl : R.length = kk + (n - kk) := by rw [h4]; omega
              have hmp : 0 < n - kk := by omega
              clear h1 h2 h3 h4 h5 h6 HK hkm HM hmM hm1 hM1 hmi hlt2 hMn
              obtain ⟨wv, hcl, hRv, hGv⟩ := clearP_run (c := cap - kk) hmp HRX.out hrl
              have HRV := Lib.hid hRv
              have HGV := Lib.hid (gB_trans HGX.out hGv)
              clear hRv hGv
              go_wp2_with fail
              go_ret
              refine ⟨by rw [HKE.out.1]; rfl, ?_, HGV.out⟩
              rw [← HKE.out.2]; exact HRV.out
        · rw [decide_eq_false hxy]
          have HXY := Lib.hid hxy
          clear hxy
          go_wp2_with fail
          go_roundg (n - (k + 1))
          case measure => rw [HGK.out]; omega
          case rel =>
            refine ⟨k + 1, by omega, by omega, rfl, by go_num, ?_, HRW.out.of_block hbx.size (hbx.block B HRW.out.1), gB_below HGB.out hbx⟩
            obtain rfl := HJ.out
            show keptV l (j + 1 + 1) = _
            rw [keptV_other HKX.out HJY.out HXY.out, HKP.out, List.take_add_one (i := j + 1), HKX.out]
            rfl
      · have hki : ¬ (k : Int) < (n : Int) := by omega
        obtain rfl : k = n := by omega
        have hfull : l.take k = l := List.take_of_length_le (by rw [HL.out]; exact Nat.le_refl _)
        have hkl : keptV l k = l := by rw [HKP.out, hfull]
        have HK := Lib.hid hkl
        have HKL := Lib.hid (show (keptV l k).length = k by rw [hkl]; exact HL.out)
        clear hfull hkl
        go_wp2_with fail
        go_ret
        refine ⟨by rw [HKL.out]; rfl, ?_, HGB.out⟩
        rw [HK.out]; exact HRW.out

end Go.Proofs.Ythdhakpmhndbfaa
