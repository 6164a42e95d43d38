/-
  A number has one text; The iterator over a number's words, for a body that writes these words: it is handed whatever they are; A loop over an iterator whose places come in one order: the body is asked only for the place that comes next; Long division, its two steps in place: what is taken from a window of words, what is added back; Long division, a word of the quotient guessed: plain; Long division: guessWord; Long division: subtractTimes, addBack.
-/
import Derived.Deep.CutBlock
import Derived.WalkMore
import Derived.Test.YtimcbmgmngkagaaGreatDoorK1
import Derived.Test.YtimcbmgmngkagaaGreatDoorK2
import Derived.Test.YtimcbmgmngkagaaGreatDoorK3
import Derived.Test.YtimcbmgmngkagaaGreatDoorK4
import Derived.Test.YtimcbmgmngkagaaGreatDoorK5
import Derived.Test.YtimcbmgmngkagaaGreatDoorK6
import Derived.Test.YtimcbmgmngkagaaGreatDoorK8
namespace Go.Proofs.YtimcbmgmngkagaaGreatDoor
open Go.Lib

theorem dec_inj_len : ∀ (k : Nat) (a b : List UInt8), a.length = k → b.length = k → a.all isDg = true → b.all isDg = true → decV a = decV b → a = b := by
  intro k
  induction k with
  | zero =>
    intro a b ha hb _ _ _
    rw [List.length_eq_zero_iff.1 ha, List.length_eq_zero_iff.1 hb]
  | succ k ih =>
    intro a b ha hb da db h
    rcases List.eq_nil_or_concat a with e | ⟨a', c, rfl⟩
    · rw [e] at ha; simp at ha
    rcases List.eq_nil_or_concat b with e | ⟨b', d, rfl⟩
    · rw [e] at hb; simp at hb
    simp only [List.concat_eq_append] at ha da h hb db ⊢
    rw [List.all_append, Bool.and_eq_true] at da db
    have hc : isDg c = true := by simpa using da.2
    have hd : isDg d = true := by simpa using db.2
    rw [decV_snoc, decV_snoc] at h
    have hc' : 48 ≤ c.toNat ∧ c.toNat ≤ 57 := of_decide_eq_true hc
    have hd' : 48 ≤ d.toNat ∧ d.toNat ≤ 57 := of_decide_eq_true hd
    have e1 : c = d := UInt8.toNat_inj.1 (by omega)
    have e2 : a' = b' := ih a' b' (by simpa using ha) (by simpa using hb) da.1 db.1 (by omega)
    rw [e1, e2]

/-- Digits without a needless 0 ahead. -/
def TidyD (l : List UInt8) : Prop := l ≠ [] ∧ l.all isDg = true ∧ (l.head? ≠ some 48 ∨ l = [48])

theorem tidy_low {l : List UInt8} (h : TidyD l) (h48 : l ≠ [48]) : 10 ^ (l.length - 1) ≤ decV l := by
  obtain ⟨h1, h2, h3⟩ := h
  cases l with
  | nil => exact absurd rfl h1
  | cons c l =>
    have hc : isDg c = true := by rw [List.all_cons, Bool.and_eq_true] at h2; exact h2.1
    have hc' : 48 ≤ c.toNat ∧ c.toNat ≤ 57 := of_decide_eq_true hc
    have hne : c ≠ 48 := by
      rcases h3 with h3 | h3
      · intro e; exact h3 (by rw [e]; rfl)
      · exact absurd h3 h48
    have hc48 : c.toNat ≠ 48 := fun e => hne (UInt8.toNat_inj.1 (by rw [e]; rfl))
    have e := decV_append [c] l
    rw [List.singleton_append] at e
    rw [e, List.length_cons, Nat.add_sub_cancel]
    have : decV [c] = c.toNat - 48 := by simp [decV]
    rw [this]
    have : 1 * 10 ^ l.length ≤ (c.toNat - 48) * 10 ^ l.length := Nat.mul_le_mul_right _ (by omega)
    omega

theorem tidy_inj {a b : List UInt8} (ha : TidyD a) (hb : TidyD b) (h : decV a = decV b) : a = b := by
  have z48 : decV [48] = 0 := by decide
  have pos : ∀ {l : List UInt8}, TidyD l → l ≠ [48] → 0 < decV l := fun hl hn => Nat.lt_of_lt_of_le (Nat.pow_pos (by decide)) (tidy_low hl hn)
  by_cases h1 : a = [48]
  · by_cases h2 : b = [48]
    · rw [h1, h2]
    · have := pos hb h2
      rw [← h, h1, z48] at this
      omega
  · by_cases h2 : b = [48]
    · have := pos ha h1
      rw [h, h2, z48] at this
      omega
    · have l1 := tidy_low ha h1
      have l2 := tidy_low hb h2
      have u1 := decV_bnd ha.2.1
      have u2 := decV_bnd hb.2.1
      have n1 : 1 ≤ a.length := List.length_pos_iff.2 ha.1
      have n2 : 1 ≤ b.length := List.length_pos_iff.2 hb.1
      have key : a.length = b.length := by
        rcases Nat.lt_trichotomy a.length b.length with hl | hl | hl
        · have : 10 ^ a.length ≤ 10 ^ (b.length - 1) := Nat.pow_le_pow_right (by decide) (by omega)
          omega
        · exact hl
        · have : 10 ^ b.length ≤ 10 ^ (a.length - 1) := Nat.pow_le_pow_right (by decide) (by omega)
          omega
      exact dec_inj_len _ a b key rfl ha.2.1 hb.2.1 h

theorem plain_tidy {l : List UInt8} (h : plainB l = true) : TidyD (digitsOf l) ∧ (isNeg l = true → 0 < decV (digitsOf l)) := by
  unfold plainB at h
  simp only [Bool.and_eq_true, Bool.or_eq_true, bne_iff_ne, ne_eq, beq_iff_eq, Bool.not_eq_true', List.isEmpty_eq_false_iff] at h
  obtain ⟨⟨h1, h2⟩, h3⟩ := h
  have ht : TidyD (digitsOf l) := ⟨h1, h2, by
    rcases h3 with h3 | h3
    · exact .inl h3
    · right; rw [h3]; rfl⟩
  refine ⟨ht, fun hn => ?_⟩
  refine Nat.lt_of_lt_of_le (Nat.pow_pos (by decide)) (tidy_low ht ?_)
  intro e
  rcases h3 with h3 | h3
  · rw [e] at h3; exact h3 rfl
  · rw [h3] at hn; exact absurd hn (by decide)

theorem text_of {l : List UInt8} : l = (if isNeg l then 45 :: digitsOf l else digitsOf l) := by
  cases l with
  | nil => rfl
  | cons c t =>
    by_cases hc : c = 45
    · subst hc; simp [isNeg, digitsOf]
    · simp [isNeg, digitsOf, hc]

theorem plain_inj {a b : List UInt8} (ha : plainB a = true) (hb : plainB b = true) (h : strV a = strV b) : a = b := by
  obtain ⟨ta, pa⟩ := plain_tidy ha
  obtain ⟨tb, pb⟩ := plain_tidy hb
  unfold strV at h
  have ea := text_of (l := a)
  have eb := text_of (l := b)
  cases na : isNeg a <;> cases nb : isNeg b <;> rw [na] at h ea <;> rw [nb] at h eb <;> simp only [if_true, if_false, Bool.false_eq_true] at h ea eb
  · rw [ea, eb]; exact tidy_inj ta tb (by omega)
  · have := pb nb; omega
  · have := pa na; omega
  · rw [ea, eb]; rw [tidy_inj ta tb (by omega)]

theorem num_plain {l : List UInt8} (h : numB l = true) : plainB l = true := by
  unfold numB at h
  rw [Bool.and_eq_true] at h
  exact h.1

/-- What is read and written again is the same text. -/
theorem itoa_strV {l : List UInt8} (h : numB l = true) : itoa (strV l) = l := plain_inj (itoa_says _).1 (num_plain h) (itoa_says _).2.1

end Go.Proofs.YtimcbmgmngkagaaGreatDoor

namespace Go.Proofs.YtimcbmgmngkagaaGreatDoor
open Go.RowKit Go.Shelf
attribute [local go_sem] Oper.semAt_some

/-- The blocks of S lie as they lay; the row's cells are still words. -/
def KeepsRow (S : Nat → Prop) (b off len : Nat) (W W' : World) : Prop := KeepsAt S W W' ∧ ∀ i, i < len → (∃ v : Nat, W.cell? ⟨b, off + i, none⟩ = some (.int .u64 (v : Int))) → ∃ v : Nat, W'.cell? ⟨b, off + i, none⟩ = some (.int .u64 (v : Int))
theorem KeepsRow.refl (S : Nat → Prop) (b off len : Nat) (W : World) : KeepsRow S b off len W W := ⟨KeepsAt.refl _ _, fun _ _ h => h⟩
theorem KeepsRow.trans {S : Nat → Prop} {b off len : Nat} {A B C : World} (h : KeepsRow S b off len A B) (k : KeepsRow S b off len B C) : KeepsRow S b off len A C := ⟨h.1.trans k.1, fun i hi hv => k.2 i hi (h.2 i hi hv)⟩
theorem KeepsRow.putObj {S : Nat → Prop} {b off len : Nat} {N : Nat} (hS : ∀ b, S b → b < N) (W : World) (l : Nat) (o o' : Obj) (hl : N ≤ l) (ho : W.heap[l]? = some o) (hc : o.isCells = false) (hw : o.isWalk = false) : KeepsRow S b off len W (W.putObj l o') := by
  refine ⟨KeepsAt.putObj hS W l o o' hl ho hc hw, fun i _ hv => ?_⟩
  obtain ⟨v, hv⟩ := hv
  by_cases e : b = l
  · subst e
    exfalso
    simp only [World.cell?, ho] at hv
    cases o <;> simp_all [Obj.isCells]
  · exact ⟨v, by rw [World.cell?_of_block (w := W) (World.putObj_heap_other e)]; exact hv⟩

/-- A place and the word that it holds when its turn comes. -/
abbrev PosW (len : Nat) := Pos len × Nat
def encW (len : Nat) (x : PosW len) : Array Value := #[.int .i64 (x.1.1 : Int), .int .u64 (x.2 : Int)]

set_option maxRecDepth 100000 in
set_option maxHeartbeats 2000000 in
/-- All places, from the highest on; each at its turn. -/
theorem downN_in (F : Fence) (n : Nat) (h7 : F.fn 150) (hro : F.round = none) (hn : 1 ≤ n) (l Bs len cap : Nat) (S : Nat → Prop) (b off : Nat) (hreach : len ≤ 1000000000) (J : List (PosW len) → World → Prop)
    (hY : ∀ pre x W, J pre W → (pre.length < len ∧ x.1 = dnAt len pre.length) → YieldAt F (n - 1) Tryz.prog l (encW len x) W fun e W' => e = .returned (.bool true) ∧ J (pre ++ [x]) W' ∧ KeepsRow S b off len W W')
    (W : World) (hBs : W.cell? ⟨Bs, 0, none⟩ = some (.slice (some ⟨b, off, none⟩) len cap)) (hBn : S Bs)
    (hc : ∀ i, i < len → ∃ v : Nat, W.cell? ⟨b, off + i, none⟩ = some (.int .u64 (v : Int))) (h0 : J [] W) :
    CallsIn F n Tryz.prog 150 #[.func (.yield l) #[] #[], .pointer (some ⟨Bs, 0, none⟩)] W fun e W' => (∃ v, e = .returned v) ∧ ∃ ys, ys.length = len ∧ J ys W' := by
  refine callsIn_of_wp Tryz.func150 rfl h7 ?_ hro
  simp only [Tryz.ntmps150, List.size_toArray, List.length_cons, List.length_nil, Nat.reduceAdd, Nat.reduceSub, Array.replicate_succ, Array.replicate_zero, List.push_toArray, List.append_toArray, List.nil_append, List.cons_append]
  gi_wp2
  gi_loopw [3] (fun i wr => ∃ (k : Nat) (ys : List (PosW len)), k ≤ len ∧ i = .int .i64 ((len : Int) - 1 - k) ∧ Hid (ys.length = k) ∧ J ys wr ∧ KeepsRow S b off len W wr)
    (fun i _ => (intOf i + 1).toNat)
  case atStart => exact ⟨0, [], Nat.zero_le _, by simp, rfl, h0, KeepsRow.refl _ _ _ _ _⟩
  case round =>
    obtain ⟨k, ys, hk, rfl, HYS, hJs, hnx⟩ := hrel
    have hbx : wr.cell? ⟨Bs, 0, none⟩ = some (.slice (some ⟨b, off, none⟩) len cap) := (hnx.1.cell (p := ⟨Bs, 0, none⟩) hBn).trans hBs
    by_cases hlt : k < len
    · obtain ⟨v, hcell⟩ := hnx.2 (len - 1 - k) (by omega) (hc (len - 1 - k) (by omega))
      obtain ⟨fn, tmps, assign, body, hy, hR⟩ := hY ys (dnAt len k, v) wr hJs ⟨by rw [HYS.out]; exact hlt, by rw [HYS.out]⟩
      unfold encW dnAt at hy
      dsimp only at hy
      have e0 : ((len - 1 - k : Nat) : Int) = (len : Int) - 1 - k := by omega
      rw [e0] at hy
      have HE := Lib.hid e0
      clear e0
      gi_wp2
      refine hR.mono ?_
      rintro e W3 ⟨rfl, hJ3, hk3⟩
      gi_wp2
      go_roundw
      case rel => exact ⟨k + 1, _, by omega, by simp; omega, by show _ = _; rw [List.length_append, HYS.out]; rfl, hJ3, hnx.trans hk3⟩
      case measure => simp [intOf]; omega
    · obtain rfl : k = len := by omega
      gi_wp2
      go_end0
      exact ⟨⟨_, rfl⟩, _, HYS.out, hJs⟩

end Go.Proofs.YtimcbmgmngkagaaGreatDoor

namespace Go.Proofs.YtimcbmgmngkagaaGreatDoor
open Go.RowKit

theorem wpIn_rangeFunc_next {α : Type} {F : Fence} {n : Nat} {P : Program} {g : Operand} {ps : Array Tmp} {assign body : Code} {Q : Exit → Act → World → Prop} {a : Act} {w : World}
    (hro : F.round = none) (h1 : 1 ≤ n) {gf : Nat} {lb : Array Value} (hg : a.eval g = .func (.func gf) #[] lb) (hFg : F.fn gf) (eg : ∀ args w, (callFunc gf args).run P w = .ok (.enter gf args) w)
    {encs : α → Array Value} (hps : ∀ x, (encs x).size = ps.size) (Ok : List α → α → Prop) (S : List α → Prop) (Kp : World → World → Prop)
    (hiter : ∀ (l : Nat) (J : List α → World → Prop) (W : World), Below w.heap.size w W →
      (∀ pre x W1, J pre W1 → Ok pre x → YieldAt F (n - 1 - 1) P l (encs x) W1 fun e W' => e = .returned (.bool true) ∧ J (pre ++ [x]) W' ∧ Kp W1 W') →
      J [] W → CallsIn F (n - 1) P gf (#[.func (.yield l) #[] #[]] ++ lb) W fun e W' => (∃ v, e = .returned v) ∧ ∃ xs, S xs ∧ J xs W')
    (hKt : ∀ {A B C : World}, Kp A B → Kp B C → Kp A C) (hKb : ∀ (W : World) (l : Nat) (o o' : Obj), w.heap.size ≤ l → W.heap[l]? = some o → o.isCells = false → o.isWalk = false → Kp W (W.putObj l o'))
    (I : List α → World → Prop) (hI : OwnFrom w.heap.size I) (h0 : I [] w) (a₁ : α → Act)
    (hassign : ∀ (l : Nat) (x : α) (W : World) (K : Act → World → Prop), K (a₁ x) W →
      assign.wpIn (F.inRound l) (n - 1 - 1) P (Exit.then K (fun _ _ _ => False)) { tmps := (ps.zip (encs x)).foldl (fun t (p, v) => t.setIfInBounds p v) a.tmps, defers := [] } W)
    (hbody : ∀ (l : Nat) (pre : List α) (x : α) (W : World), I pre W → Ok pre x → body.wpIn (F.inRound l) (n - 1 - 1) P (ownPostK Kp I (fun _ _ _ => False) (pre ++ [x]) W) (a₁ x) W)
    (hdone : ∀ (D : Nat) (xs : List α) (W : World), w.heap.size ≤ D → S xs → I xs W → W.heap[D]? = some (.deferred (some [])) → Q .normal { a with defers := { target := .collected D, args := #[] } :: a.defers } W) :
    (Code.rangeFunc g ps assign body).wpIn F n P Q a w := by
  refine wpIn_rangeFunc fun fn hfn => ?_
  rw [hro]
  have hlast : ∀ (W : World) (k : Nat) (o : Obj), w.heap.size ≤ k → W.heap[k]? = some o → o.isCells = false → ∀ (xs : List α) (o' : Obj), I xs W → I xs (W.putObj k o') := fun W k o hk ho hc xs o' hi => hI.putObj o' hi hk ho hc
  let rec_ : LoopState → Loop := fun st => { state := st, pending := none, fn := fn, tmps := a.tmps, params := ps, assign := assign, body := body, defers := w.heap.size }
  let W1 : World := (w.alloc (.deferred (some []))).alloc (.loop (rec_ .ready))
  have hnew : ((w.alloc (.deferred (some []))).alloc (.loop (rec_ .ready))).heap[w.heap.size + 1]? = some (.loop (rec_ .ready)) := by
    have e := World.alloc_heap_new (w.alloc (.deferred (some []))) (.loop (rec_ .ready))
    rw [World.size_alloc] at e
    exact e
  have hmark : ((w.alloc (.deferred (some []))).alloc (.loop (rec_ .ready))).heap[w.heap.size]? = some (.deferred (some [])) :=
    (Below.heap_alloc _ _ _ (by simp)).trans (World.alloc_heap_new w _)
  refine ⟨w.heap.size + 1, [{ target := .collected w.heap.size, args := #[] }], W1, { target := .fn (.func gf) lb, args := #[.func (.yield (w.heap.size + 1)) #[] #[]] }, W1, gf,
    #[.func (.yield (w.heap.size + 1)) #[] #[]] ++ lb, W1, run_enterLoop_outer _ _ _ _ _, by simp only [resolve, hg]; simp [go_sem], fun f' hf' => by simp [Target.leads] at hf'; subst hf'; exact hFg, by simp [invoke, go_sem, eg], fun _ => h1, ?_⟩
  refine (hiter (w.heap.size + 1) (fun pre W => I pre W ∧ W.heap[w.heap.size + 1]? = some (.loop (rec_ .ready)) ∧ W.heap[w.heap.size]? = some (.deferred (some []))) _
    (((Below.refl _ w).alloc (Nat.le_refl _) _).alloc (by simp) _) ?_ ⟨hI.alloc _ (hI.alloc _ h0), hnew, hmark⟩).mono ?_
  · rintro pre x W ⟨hi, hl, hk⟩ hok
    have hlt : w.heap.size + 1 < W.heap.size := (Array.getElem?_eq_some_iff.1 hl).1
    have hy := run_yield (P := P) (args := encs x) hl (hps x)
    refine ⟨fn, _, assign, body, hy, roundIn_of_wpIn hfn (hassign _ x W _ ⟨_, run_beginRound hl rfl, ?_⟩)⟩
    have hl2 : (W.putObj (w.heap.size + 1) (.loop { rec_ .ready with state := .busy })).heap[w.heap.size + 1]? = some (.loop { rec_ .ready with state := .busy }) := World.putObj_heap_same hlt
    have hk2 : (W.putObj (w.heap.size + 1) (.loop { rec_ .ready with state := .busy })).heap[w.heap.size]? = some (.deferred (some [])) := (World.putObj_heap_other (by omega)).trans hk
    refine wpIn_mono (hbody _ pre x _ (hlast _ _ _ (by omega) hl rfl _ _ hi) hok) ?_
    intro e a3 W3 hp
    cases e with
    | normal =>
      obtain ⟨hk3, hkp3, hi3⟩ := hp
      have hl3 := hk3.same _ _ hl2 rfl
      have hm3 := hk3.same _ _ hk2 rfl
      have hlt3 : w.heap.size + 1 < W3.heap.size := (Array.getElem?_eq_some_iff.1 hl3).1
      refine ⟨_, _, run_endRound none hl3, rfl, ⟨hlast _ _ _ (by omega) hl3 rfl _ _ hi3, World.putObj_heap_same hlt3, (World.putObj_heap_other (by omega)).trans hm3⟩, ?_⟩
      exact hKt (hKt (hKb _ _ _ _ (by omega) hl rfl rfl) hkp3) (hKb _ _ _ _ (by omega) hl3 rfl rfl)
    | ret => exact hp.2.elim
    | exit id => exact hp.2.elim
    | goto t => exact hp.2.elim
    | panic ch => exact hp.elim
    | outgrown => exact hp.elim
  · rintro e W2 ⟨⟨v, rfl⟩, xs, hS, hi, hl, hk⟩
    exact ⟨none, _, run_endLoop (P := P) hl (by simp [rec_]), hdone _ xs _ (Nat.le_refl _) hS (hlast _ _ _ (by omega) hl rfl _ _ hi) ((World.putObj_heap_other (by omega)).trans hk)⟩

end Go.Proofs.YtimcbmgmngkagaaGreatDoor

namespace Go.Proofs.YtimcbmgmngkagaaGreatDoor
open Go.RowKit

theorem seg_get (pre win post : List Nat) {i : Nat} (h : i < win.length) : (pre ++ win ++ post)[pre.length + i]?.getD 0 = win[i]?.getD 0 := by
  rw [List.append_assoc, List.getElem?_append_right (by omega), Nat.add_sub_cancel_left, List.getElem?_append_left h]
theorem seg_set (pre win post : List Nat) {i : Nat} (h : i < win.length) (x : Nat) : (pre ++ win ++ post).set (pre.length + i) x = pre ++ win.set i x ++ post := by
  rw [List.append_assoc, List.set_append_right _ _ (by omega), Nat.add_sub_cancel_left, List.set_append_left _ _ h, List.append_assoc]
theorem take_set {zs : List Nat} {j : Nat} (h : j < zs.length) (x : Nat) : (zs.set j x).take (j + 1) = zs.take j ++ [x] := by
  rw [List.take_succ_eq_append_getElem (by rw [List.length_set]; exact h), List.getElem_set_self, List.take_set_of_le (Nat.le_refl _)]
theorem dv_take_set {b : Nat} {zs : List Nat} {j : Nat} (h : j < zs.length) (x : Nat) : dv b ((zs.set j x).take (j + 1)) = dv b (zs.take j) + b ^ j * x := by
  rw [take_set h, dv_snoc, List.length_take, Nat.min_eq_left (by omega)]

/-- times y taken from the window, as far as word j. -/
def SubT (ys z0 zs : List Nat) (t j c b : Nat) : Prop :=
  zs.length = z0.length ∧ Dg BW zs ∧ c < BW ∧ b ≤ 1 ∧ dv BW (zs.take j) + t * dv BW (ys.take j) = dv BW (z0.take j) + BW ^ j * (c + b) ∧ (∃ s, t * dv BW (ys.take j) = s + BW ^ j * c) ∧ ∀ i, j ≤ i → zs[i]?.getD 0 = z0[i]?.getD 0

theorem SubT.start {ys z0 : List Nat} {t : Nat} (h : Dg BW z0) : SubT ys z0 z0 t 0 0 0 :=
  ⟨rfl, h, by decide, Nat.zero_le _, by simp [dv], ⟨0, by simp [dv]⟩, fun _ _ => rfl⟩

theorem SubT.step {ys z0 zs : List Nat} {t j c b c1 x b' : Nat} (h : SubT ys z0 zs t j c b) (hj : j < z0.length) (gy : Dg BW ys) (ht : t < BW) (hc1 : c + t * ys[j]?.getD 0 = c1) (hx : x + (c1 % BW + b) = z0[j]?.getD 0 + BW * b') (hx1 : x < BW) (hb : b' ≤ 1) :
    SubT ys z0 (zs.set j x) t (j + 1) (c1 / BW) b' := by
  obtain ⟨h1, h2, h3, h4, h5, ⟨s, h6⟩, h7⟩ := h
  have e1 : dv BW (ys.take (j + 1)) = dv BW (ys.take j) + BW ^ j * ys[j]?.getD 0 := dv_take_succ _ _ _
  have e2 : dv BW (z0.take (j + 1)) = dv BW (z0.take j) + BW ^ j * z0[j]?.getD 0 := dv_take_succ _ _ _
  have e3 : dv BW ((zs.set j x).take (j + 1)) = dv BW (zs.take j) + BW ^ j * x := dv_take_set (by omega) x
  have e4 := Nat.div_add_mod c1 BW
  refine ⟨by rw [List.length_set]; exact h1, h2.set _ hx1, ?_, hb, ?_, ⟨s + BW ^ j * (c1 % BW), ?_⟩, fun i hi => ?_⟩
  · rw [Nat.div_lt_iff_lt_mul (by decide)]
    have g1 := gy.get (b := BW) (by decide) j
    have g2 := mul_fits (b := BW) (by decide) h3 ht g1 (show 0 < BW by decide)
    rw [Nat.add_zero] at g2
    omega
  · rw [e1, e2, e3]
    generalize ys[j]?.getD 0 = y at *
    generalize z0[j]?.getD 0 = z at *
    have k1 : c + b + x + t * y = z + BW * (c1 / BW) + BW * b' := by omega
    have k2 : BW ^ j * (c + b + x + t * y) = BW ^ j * (z + BW * (c1 / BW) + BW * b') := by rw [k1]
    rw [Nat.pow_succ]
    grind
  · rw [e1]
    have k1 : BW ^ j * (c + t * ys[j]?.getD 0) = BW ^ j * (BW * (c1 / BW) + c1 % BW) := by rw [e4, hc1]
    rw [Nat.pow_succ]
    grind
  · rw [set_get_other _ _ _ _ (by omega)]; exact h7 i (by omega)

theorem SubT.done {ys z0 zs : List Nat} {t c b : Nat} (h : SubT ys z0 zs t z0.length c b) (gy : Dg BW ys) (ht : t < BW) (hl : z0.length = ys.length + 1) : zs.length = z0.length ∧ Dg BW zs ∧ b ≤ 1 ∧ dv BW zs + t * dv BW ys = dv BW z0 + BW ^ z0.length * b := by
  obtain ⟨h1, h2, h3, h4, h5, ⟨s, h6⟩, h7⟩ := h
  have hy : ys.take z0.length = ys := List.take_of_length_le (by omega)
  have hz : zs.take z0.length = zs := List.take_of_length_le (by omega)
  rw [hy, hz, List.take_length] at h5
  rw [hy] at h6
  have g1 := dv_lt gy
  have hc : c = 0 := by
    rcases Nat.eq_zero_or_pos c with h | h
    · exact h
    · have g2 : BW ^ z0.length ≤ BW ^ z0.length * c := Nat.le_mul_of_pos_right _ h
      have g3 : t * dv BW ys < BW * BW ^ ys.length := Nat.mul_lt_mul_of_lt_of_le ht (Nat.le_of_lt g1) (Nat.pow_pos (by decide))
      have g4 : BW ^ z0.length = BW * BW ^ ys.length := by rw [hl, Nat.pow_succ, Nat.mul_comm]
      omega
  subst hc
  rw [Nat.zero_add] at h5
  exact ⟨h1, h2, h4, h5⟩

/-- y added to the window, as far as word j. -/
def AddT (ys z0 zs : List Nat) (j c : Nat) : Prop :=
  zs.length = z0.length ∧ Dg BW zs ∧ c ≤ 1 ∧ dv BW (zs.take j) + BW ^ j * c = dv BW (z0.take j) + dv BW (ys.take j) ∧ ∀ i, j ≤ i → zs[i]?.getD 0 = z0[i]?.getD 0

theorem AddT.start {ys z0 : List Nat} (h : Dg BW z0) : AddT ys z0 z0 0 0 := ⟨rfl, h, Nat.zero_le _, by simp [dv], fun _ _ => rfl⟩
theorem AddT.step {ys z0 zs : List Nat} {j c s : Nat} (h : AddT ys z0 zs j c) (hj : j < z0.length) (gz : Dg BW z0) (gy : Dg BW ys) (hs : c + z0[j]?.getD 0 + ys[j]?.getD 0 = s) : AddT ys z0 (zs.set j (s % BW)) (j + 1) (s / BW) := by
  obtain ⟨h1, h2, h3, h4, h5⟩ := h
  have g1 := gy.get (b := BW) (by decide) j
  have g2 := gz.get (b := BW) (by decide) j
  have e1 : dv BW (ys.take (j + 1)) = dv BW (ys.take j) + BW ^ j * ys[j]?.getD 0 := dv_take_succ _ _ _
  have e2 : dv BW (z0.take (j + 1)) = dv BW (z0.take j) + BW ^ j * z0[j]?.getD 0 := dv_take_succ _ _ _
  have e3 : dv BW ((zs.set j (s % BW)).take (j + 1)) = dv BW (zs.take j) + BW ^ j * (s % BW) := dv_take_set (by omega) _
  have e4 := Nat.div_add_mod s BW
  refine ⟨by rw [List.length_set]; exact h1, h2.set _ (Nat.mod_lt _ (by decide)), ?_, ?_, fun i hi => ?_⟩
  · have g3 : s < 2 * BW := by omega
    have g4 : s / BW < 2 := by rw [Nat.div_lt_iff_lt_mul (by decide)]; exact g3
    omega
  · rw [e1, e2, e3]
    have k1 : BW ^ j * (c + z0[j]?.getD 0 + ys[j]?.getD 0) = BW ^ j * (BW * (s / BW) + s % BW) := by rw [e4, hs]
    rw [Nat.pow_succ]
    grind
  · rw [set_get_other _ _ _ _ (by omega)]; exact h5 i (by omega)
theorem AddT.done {ys z0 zs : List Nat} {c : Nat} (h : AddT ys z0 zs z0.length c) (hl : ys.length ≤ z0.length) : zs.length = z0.length ∧ Dg BW zs ∧ c ≤ 1 ∧ dv BW zs + BW ^ z0.length * c = dv BW z0 + dv BW ys := by
  obtain ⟨h1, h2, h3, h4, h5⟩ := h
  rw [List.take_of_length_le (by omega), List.take_length, List.take_of_length_le hl] at h4
  exact ⟨h1, h2, h3, h4⟩

/-- Words in another block are kept. -/
theorem Rd.grownB {k : IntKind} {w w' : World} {p : Option Addr} {n : Nat} {xs : List Nat} {B : Nat} (h : Rd k w p n xs) (hne : ∀ b o, p = some ⟨b, o, none⟩ → b ≠ B) (hg : w.grownBy w' (some B)) : Rd k w' p n xs := by
  refine ⟨h.1, fun j hj => ?_⟩
  obtain ⟨b, off, hp, hlt, hc⟩ := h.2 j hj
  exact ⟨b, off, hp, Nat.lt_of_lt_of_le hlt hg.size, hg.cell hc (fun e => hne b off hp (Option.some.inj e))⟩
theorem grown_put {w w' : World} {B : Nat} (h : w.grownBy w' (some B)) (j : Nat) (u : Value) : w.grownBy (w'.setCell ⟨B, j, none⟩ u) (some B) := by
  refine ⟨by simpa [World.setCell] using h.os, by simpa [World.setCell] using h.tape, by simpa [World.setCell] using h.output, by simpa using h.size, fun k hk hne => ?_⟩
  rw [Below.heap_setCell _ _ _ _ (fun e => hne (by rw [e]))]
  exact h.block k hk hne

end Go.Proofs.YtimcbmgmngkagaaGreatDoor

namespace Go.Proofs.YtimcbmgmngkagaaGreatDoor

/-- What is known of the window U and of the divisor V: their highest words. -/
structure GuessK (B K U V un u1 u2 v1 v2 : Nat) : Prop where
  ul : (( un * B + u1) * B + u2) * K ≤ U
  uu : U < ((un * B + u1) * B + u2 + 1) * K
  vl : (v1 * B + v2) * K ≤ V
  vu : V < (v1 * B + v2 + 1) * K
  fit : U < V * B
  lu1 : u1 < B
  lu2 : u2 < B
  lv1 : v1 < B
  lv2 : v2 < B
  pos : 1 ≤ v1
  half : B ≤ 2 * v1

/-- The guess is not too small. -/
def GuessI (U V T v1 g l : Nat) : Prop := g * v1 + l = T ∧ U < (g + 1) * V

theorem top_le {B K U V un u1 u2 v1 v2 : Nat} (h : GuessK B K U V un u1 u2 v1 v2) : un ≤ v1 := by
  rcases Nat.lt_or_ge v1 un with hlt | hge
  · exfalso
    have e1 : v1 + 1 ≤ un := hlt
    have e2 : (v1 + 1) * B ≤ un * B + u1 := Nat.le_trans (Nat.mul_le_mul_right B e1) (Nat.le_add_right _ _)
    have e3 : (v1 + 1) * B * B ≤ (un * B + u1) * B + u2 := Nat.le_trans (Nat.mul_le_mul_right B e2) (Nat.le_add_right _ _)
    have e4 : (v1 + 1) * B * B * K ≤ U := Nat.le_trans (Nat.mul_le_mul_right K e3) h.ul
    have f1 : v1 * B + v2 + 1 ≤ (v1 + 1) * B := by have := h.lv2; rw [Nat.add_mul, Nat.one_mul]; omega
    have f2 : V < (v1 + 1) * B * K := Nat.lt_of_lt_of_le h.vu (Nat.mul_le_mul_right K f1)
    have f3 : V * B ≤ (v1 + 1) * B * K * B := Nat.mul_le_mul_right B (Nat.le_of_lt f2)
    have f4 : (v1 + 1) * B * K * B = (v1 + 1) * B * B * K := by rw [Nat.mul_assoc ((v1 + 1) * B) K B, Nat.mul_comm K B, ← Nat.mul_assoc]
    have := h.fit
    omega
  · exact hge

theorem guess_start {B K U V un u1 u2 v1 v2 : Nat} (h : GuessK B K U V un u1 u2 v1 v2) : GuessI U V (un * B + u1) v1 ((un * B + u1) / v1) ((un * B + u1) % v1) ∧ (un * B + u1) / v1 ≤ B + 1 ∧ (un * B + u1) % v1 < B := by
  have hp := h.pos
  generalize hT : un * B + u1 = T
  have e0 := Nat.div_add_mod T v1
  have e1 := Nat.mod_lt T (show 0 < v1 by omega)
  have hT2 : T ≤ v1 * B + (B - 1) := by
    have := Nat.mul_le_mul_right B (top_le h)
    have := h.lu1
    omega
  refine ⟨⟨by rw [Nat.mul_comm]; exact e0, ?_⟩, ?_, by have := h.lv1; omega⟩
  · have k1 : T + 1 ≤ (T / v1 + 1) * v1 := by rw [Nat.add_mul, Nat.one_mul, Nat.mul_comm (T / v1) v1]; omega
    have k2 : T * B + u2 + 1 ≤ (T + 1) * B := by have := h.lu2; rw [Nat.add_mul, Nat.one_mul]; omega
    have k3 : (T + 1) * B ≤ (T / v1 + 1) * v1 * B := Nat.mul_le_mul_right B k1
    have k4 : (T / v1 + 1) * v1 * B ≤ (T / v1 + 1) * (v1 * B + v2) := by rw [Nat.mul_assoc]; exact Nat.mul_le_mul_left _ (Nat.le_add_right _ _)
    have k5 : (T * B + u2 + 1) * K ≤ (T / v1 + 1) * (v1 * B + v2) * K := Nat.mul_le_mul_right K (Nat.le_trans k2 (Nat.le_trans k3 k4))
    have k6 : (T / v1 + 1) * (v1 * B + v2) * K ≤ (T / v1 + 1) * V := by rw [Nat.mul_assoc]; exact Nat.mul_le_mul_left _ h.vl
    have := h.uu
    rw [hT] at this
    omega
  · have k1 : T < (B + 2) * v1 := by
      rw [Nat.add_mul, Nat.mul_comm B v1]
      have := h.half
      have := h.lu1
      omega
    have k2 : T / v1 < B + 2 := (Nat.div_lt_iff_lt_mul (by omega)).2 k1
    omega

theorem guess_big {B K U V un u1 u2 v1 v2 g l : Nat} (h : GuessK B K U V un u1 u2 v1 v2) (hi : GuessI U V (un * B + u1) v1 g l) (hg : B ≤ g) : GuessI U V (un * B + u1) v1 (g - 1) (l + v1) := by
  have hB := h.lu1
  obtain ⟨m, rfl⟩ : ∃ m, g = m + 1 := ⟨g - 1, by omega⟩
  rw [Nat.add_sub_cancel]
  refine ⟨by rw [← hi.1, Nat.add_mul, Nat.one_mul]; omega, ?_⟩
  have k1 : B * V ≤ (m + 1) * V := Nat.mul_le_mul_right V hg
  have := h.fit
  rw [Nat.mul_comm V B] at this
  omega

theorem guess_step {B K U V un u1 u2 v1 v2 g l : Nat} (h : GuessK B K U V un u1 u2 v1 v2) (hi : GuessI U V (un * B + u1) v1 g l) (hg : l * B + u2 < g * v2) : 1 ≤ g ∧ GuessI U V (un * B + u1) v1 (g - 1) (l + v1) := by
  have hg0 : 1 ≤ g := by
    rcases Nat.eq_zero_or_pos g with h0 | h0
    · subst h0; rw [Nat.zero_mul] at hg; omega
    · exact h0
  obtain ⟨m, rfl⟩ : ∃ m, g = m + 1 := ⟨g - 1, by omega⟩
  refine ⟨hg0, ?_⟩
  rw [Nat.add_sub_cancel]
  refine ⟨by rw [← hi.1, Nat.add_mul, Nat.one_mul]; omega, ?_⟩
  have e1 := hi.1
  have huu := h.uu
  have hvl := h.vl
  clear hi h
  generalize un * B + u1 = T at *
  have k1 : T * B + u2 + 1 ≤ (m + 1) * (v1 * B + v2) := by
    have : (m + 1) * (v1 * B + v2) = ((m + 1) * v1) * B + (m + 1) * v2 := by rw [Nat.mul_add, Nat.mul_assoc]
    rw [this, ← e1, Nat.add_mul]
    omega
  have k2 : (T * B + u2 + 1) * K ≤ (m + 1) * (v1 * B + v2) * K := Nat.mul_le_mul_right K k1
  have k3 : (m + 1) * (v1 * B + v2) * K ≤ (m + 1) * V := by rw [Nat.mul_assoc]; exact Nat.mul_le_mul_left _ hvl
  omega

/-- The guess is at most one too great. -/
theorem guess_done {B K U V un u1 u2 v1 v2 g l : Nat} (h : GuessK B K U V un u1 u2 v1 v2) (hi : GuessI U V (un * B + u1) v1 g l) (hx : B ≤ l ∨ (g < B ∧ g * v2 ≤ l * B + u2)) : g < B ∧ g * V < U + V ∧ U < (g + 1) * V := by
  have e1 := hi.1
  have htop := top_le h
  have hT2 : un * B + u1 ≤ v1 * B + (B - 1) := by
    have := Nat.mul_le_mul_right B htop
    have := h.lu1
    omega
  have hgB : g < B := by
    rcases hx with hx | hx
    · have k1 : g * v1 < B * v1 := by rw [Nat.mul_comm B v1]; have := h.lu1; omega
      exact Nat.lt_of_mul_lt_mul_right k1
    · exact hx.1
  have hkey : g * (v1 * B + v2) ≤ (un * B + u1) * B + u2 := by
    have k0 : g * (v1 * B + v2) = (g * v1) * B + g * v2 := by rw [Nat.mul_add, Nat.mul_assoc]
    rw [k0, ← e1, Nat.add_mul]
    rcases hx with hx | hx
    · have k1 : g * v2 ≤ B * B := Nat.mul_le_mul (Nat.le_of_lt hgB) (Nat.le_of_lt h.lv2)
      have k2 : B * B ≤ l * B := Nat.mul_le_mul_right B hx
      omega
    · have := hx.2
      omega
  refine ⟨hgB, ?_, hi.2⟩
  obtain ⟨r, hr⟩ : ∃ r, V = (v1 * B + v2) * K + r := ⟨V - (v1 * B + v2) * K, by have := h.vl; omega⟩
  have hrK : r < K := by have := h.vu; rw [Nat.add_mul, Nat.one_mul] at this; omega
  have k1 : g * V = g * (v1 * B + v2) * K + g * r := by rw [hr, Nat.mul_add, Nat.mul_assoc]
  have k2 : g * (v1 * B + v2) * K ≤ ((un * B + u1) * B + u2) * K := Nat.mul_le_mul_right K hkey
  have k3 : g * r ≤ g * K := Nat.mul_le_mul_left g (Nat.le_of_lt hrK)
  have k4 : g * K < B * K := Nat.mul_lt_mul_of_pos_right hgB (by omega)
  have k5 : B * K ≤ (v1 * B + v2) * K := Nat.mul_le_mul_right K (by have := Nat.mul_le_mul_right B h.pos; omega)
  have := h.ul
  have := h.vl
  omega

/-- The highest three words of a window, the highest two of a divisor. -/
theorem guessK_of {us vs : List Nat} {n : Nat} (gu : Dg BW us) (gv : Dg BW vs) (hn : 2 ≤ n) (hu : us.length = n + 1) (hv : vs.length = n) (hfit : dv BW us < dv BW vs * BW) (hhalf : BW ≤ 2 * vs[n - 1]?.getD 0) :
    GuessK BW (BW ^ (n - 2)) (dv BW us) (dv BW vs) (us[n]?.getD 0) (us[n - 1]?.getD 0) (us[n - 2]?.getD 0) (vs[n - 1]?.getD 0) (vs[n - 2]?.getD 0) := by
  obtain ⟨m, rfl⟩ : ∃ m, n = m + 2 := ⟨n - 2, by omega⟩
  rw [Nat.add_sub_cancel, show m + 2 - 1 = m + 1 by omega]
  rw [show m + 2 - 1 = m + 1 by omega] at hhalf
  have eu : dv BW us = dv BW (us.take m) + BW ^ m * us[m]?.getD 0 + BW ^ (m + 1) * us[m + 1]?.getD 0 + BW ^ (m + 2) * us[m + 2]?.getD 0 := by
    have h3 := dv_take_succ BW us (m + 2)
    have h2 : dv BW (us.take (m + 2)) = dv BW (us.take (m + 1)) + BW ^ (m + 1) * us[m + 1]?.getD 0 := dv_take_succ BW us (m + 1)
    have h1 := dv_take_succ BW us m
    rw [List.take_of_length_le (by omega)] at h3
    omega
  have ev : dv BW vs = dv BW (vs.take m) + BW ^ m * vs[m]?.getD 0 + BW ^ (m + 1) * vs[m + 1]?.getD 0 := by
    have h2 := dv_take_succ BW vs (m + 1)
    have h1 := dv_take_succ BW vs m
    rw [List.take_of_length_le (by omega)] at h2
    omega
  have lu := dv_lt (gu.take m)
  have lv := dv_lt (gv.take m)
  rw [List.length_take, Nat.min_eq_left (by omega)] at lu lv
  have b0 := gu.get (b := BW) (by decide) m
  have b1 := gu.get (b := BW) (by decide) (m + 1)
  have c0 := gv.get (b := BW) (by decide) m
  have c1 := gv.get (b := BW) (by decide) (m + 1)
  have p1 : BW ^ (m + 1) = BW ^ m * BW := Nat.pow_succ ..
  have p2 : BW ^ (m + 2) = BW ^ m * BW * BW := by rw [Nat.pow_succ, Nat.pow_succ]
  rw [p1, p2] at eu
  rw [p1] at ev
  have hB : 1 ≤ BW := by decide
  generalize us[m]?.getD 0 = u0 at *
  generalize us[m + 1]?.getD 0 = u1 at *
  generalize us[m + 2]?.getD 0 = u2 at *
  generalize vs[m]?.getD 0 = v0 at *
  generalize vs[m + 1]?.getD 0 = v1 at *
  generalize hKK : BW ^ m = K at *
  have eU : ((u2 * BW + u1) * BW + u0) * K = K * u0 + K * BW * u1 + K * BW * BW * u2 := by grind
  have eV : (v1 * BW + v0) * K = K * v0 + K * BW * v1 := by grind
  refine { ul := ?_, uu := ?_, vl := ?_, vu := ?_, fit := hfit, lu1 := b1, lu2 := b0, lv1 := c1, lv2 := c0, pos := ?_, half := hhalf }
  · rw [eU]; omega
  · rw [Nat.add_mul, Nat.one_mul, eU]; omega
  · rw [eV]; omega
  · rw [Nat.add_mul, Nat.one_mul, eV]; omega
  · omega

end Go.Proofs.YtimcbmgmngkagaaGreatDoor

namespace Go.Proofs.YtimcbmgmngkagaaGreatDoor
open Go.RowKit

set_option maxRecDepth 100000 in
set_option maxHeartbeats 4000000 in
theorem guessWord_any (p q : Option Addr) (n m c d : Nat) (us vs : List Nat) (w : World) (hn : 2 ≤ n) (hn1 : n ≤ 1000000000) (hm : m = n + 1) (hu : Rd .u64 w p m us) (hv : Rd .u64 w q n vs) (gu : Dg BW us) (gv : Dg BW vs) (hfit : dv BW us < dv BW vs * BW) (hhalf : BW ≤ 2 * vs[n - 1]?.getD 0) :
    Calls Tryz.prog 190 #[.slice p m c, .slice q n d] w fun e w' => ∃ g : Nat, e = .returned (.int .u64 (g : Int)) ∧ g < BW ∧ g * dv BW vs < dv BW us + dv BW vs ∧ dv BW us < (g + 1) * dv BW vs ∧ Below w.heap.size w w' := by
  have hK := guessK_of gu gv hn (by rw [hu.1]; exact hm) hv.1 hfit hhalf
  obtain ⟨b0, o0, rfl, hl0, hc2⟩ := hu.2 n (by omega)
  obtain ⟨_, _, e1, _, hc1⟩ := hu.2 (n - 1) (by omega)
  cases e1
  obtain ⟨_, _, e1, _, hc0⟩ := hu.2 (n - 2) (by omega)
  cases e1
  obtain ⟨b1, o1, rfl, hl1, hd1⟩ := hv.2 (n - 1) (by omega)
  obtain ⟨_, _, e1, _, hd0⟩ := hv.2 (n - 2) (by omega)
  cases e1
  generalize us[n]?.getD 0 = u2 at *
  generalize us[n - 1]?.getD 0 = u1 at *
  generalize us[n - 2]?.getD 0 = u0 at *
  generalize vs[n - 1]?.getD 0 = v1 at *
  generalize vs[n - 2]?.getD 0 = v0 at *
  have k1 : u1 < 1000000000 := hK.lu1
  have k0 : u0 < 1000000000 := hK.lu2
  have j1 : v1 < 1000000000 := hK.lv1
  have j0 : v0 < 1000000000 := hK.lv2
  have jp := hK.pos
  have ktop := top_le hK
  obtain ⟨s1, s2, s3⟩ := guess_start hK
  have HK := Lib.hid hK
  have HS1 := Lib.hid s1
  obtain ⟨T, hT⟩ : ∃ T, u2 * BW + u1 = T := ⟨_, rfl⟩
  have hTc : (u2 : Int) * 1000000000 + (u1 : Int) = (T : Int) := by rw [← hT]; simp
  have hT9 : T < 1000000000000000000 := by rw [← hT]; show u2 * 1000000000 + u1 < _; omega
  rw [hT] at s1 s2 s3
  obtain ⟨G, hG⟩ : ∃ G, T / v1 = G := ⟨_, rfl⟩
  obtain ⟨L, hL⟩ : ∃ L, T % v1 = L := ⟨_, rfl⟩
  rw [hG, hL] at s1
  rw [hG] at s2
  rw [hL] at s3
  have hGc : (T : Int) / (v1 : Int) = (G : Int) := by rw [← hG]; simp
  have hLc : (T : Int) % (v1 : Int) = (L : Int) := by rw [← hL]; simp
  have HTE := Lib.hid hT
  have HSS := Lib.hid s1
  have s2' : G ≤ 1000000001 := s2
  have s3' : L < 1000000000 := s3
  have hvp : (0 : Int) < (v1 : Int) := by omega
  have hv0 : ¬ (v1 : Int) = 0 := by omega
  obtain ⟨N2, hN2⟩ : ∃ N2, n - 2 = N2 := ⟨_, rfl⟩
  obtain ⟨N1, hN1⟩ : ∃ N1, n - 1 = N1 := ⟨_, rfl⟩
  rw [hN2] at hc0 hd0
  rw [hN1] at hc1 hd1
  have hi2 : (n : Int) - 2 = (N2 : Int) := by omega
  have hi1 : (n : Int) - 1 = (N1 : Int) := by omega
  have hm1 : (n : Int) < (m : Int) := by omega
  have hm2 : (N1 : Int) < (m : Int) := by omega
  have hm3 : (N2 : Int) < (m : Int) := by omega
  have hn2 : (N1 : Int) < (n : Int) := by omega
  have hn3 : (N2 : Int) < (n : Int) := by omega
  clear hK s1 s2 s3 hT hG hL hu hv hN1 hN2 hm
  go_enter Tryz.func190, Tryz.ntmps190
  go_wp2_with fail
  go_step3
  go_upto_region 2 with fail
  go_quiet (fail)
  go_upto_region 3 with fail
  go_quiet (fail)
  go_wp2_with fail
  go_step3
  go_wp2_with fail
  go_loopg [7, 8] G (fun gk v7 v8 wr => ∃ g l : Nat, gk = g ∧ v7 = .int .u64 (g : Int) ∧ v8 = .int .u64 (l : Int) ∧ Hid (GuessI (dv BW us) (dv BW vs) T v1 g l) ∧ g ≤ 1000000001 ∧ l < 2000000000 ∧ Below w.heap.size w wr)
  case atStart => exact ⟨G, L, rfl, rfl, congrArg (Value.int .u64) hLc, HSS, s2', by omega, by first | exact (below_drewN (below_drewN (Below.refl _ _) _) _) | exact Below.refl _ _⟩
  case round =>
    obtain ⟨g, l, hgk, rfl, rfl, HI, hg9, hl9, hb⟩ := hrel
    have HGK := Lib.hid hgk
    clear hgk hTc hT9 hGc hLc s2' s3' HSS HS1
    have hc2 := (hb.cell (p := ⟨b0, o0 + n, none⟩) hl0).trans hc2
    have hc1 := (hb.cell (p := ⟨b0, o0 + N1, none⟩) hl0).trans hc1
    have hc0 := (hb.cell (p := ⟨b0, o0 + N2, none⟩) hl0).trans hc0
    have hd1 := (hb.cell (p := ⟨b1, o1 + N1, none⟩) hl1).trans hd1
    have hd0 := (hb.cell (p := ⟨b1, o1 + N2, none⟩) hl1).trans hd0
    by_cases hlB : 1000000000 ≤ l
    · have hlBi : (1000000000 : Int) ≤ (l : Int) := by omega
      have HX : Hid (BW ≤ l ∨ (g < BW ∧ g * v0 ≤ l * BW + u0)) := Or.inl hlB
      go_wp2_with fail
      try simp only [Exit.inBlock, Exit.then, Exit.noGoto_ret]
      go_ret
      obtain ⟨r1, r2, r3⟩ := guess_done HK.out (by rw [HTE.out]; exact HI.out) HX.out
      exact ⟨g, rfl, r1, r2, r3, by first | exact hb | exact below_drewN hb _⟩
    · have hlBi : ¬ (1000000000 : Int) ≤ (l : Int) := by omega
      by_cases hgB : g < 1000000000
      · have hgBi : (g : Int) < 1000000000 := by omega
        obtain ⟨P, hP⟩ : ∃ P, g * v0 = P := ⟨_, rfl⟩
        have hPc : (g : Int) * (v0 : Int) = (P : Int) := by rw [← hP]; simp
        obtain ⟨pp1, pp2⟩ := prod_bound hgB j0
        rw [hPc] at pp1 pp2
        by_cases hle : P ≤ l * 1000000000 + u0
        · have hlei : (P : Int) ≤ (l : Int) * 1000000000 + (u0 : Int) := by omega
          have HX : Hid (BW ≤ l ∨ (g < BW ∧ g * v0 ≤ l * BW + u0)) := Or.inr ⟨hgB, by rw [hP]; exact hle⟩
          clear hP
          go_upto_region 5 with fail
          go_quiet (fail)
          go_wp2_with fail
          try simp only [Exit.inBlock, Exit.then, Exit.noGoto_ret]
          go_ret
          obtain ⟨r1, r2, r3⟩ := guess_done HK.out (by rw [HTE.out]; exact HI.out) HX.out
          exact ⟨g, rfl, r1, r2, r3, by first | exact hb | exact below_drewN hb _⟩
        · have hlei : ¬ (P : Int) ≤ (l : Int) * 1000000000 + (u0 : Int) := by omega
          have hgs := guess_step HK.out (by rw [HTE.out]; exact HI.out) (show l * BW + u0 < g * v0 by rw [hP]; show l * 1000000000 + u0 < P; omega)
          rw [HTE.out] at hgs
          obtain ⟨hg1, hn1⟩ := hgs
          have HN := Lib.hid hn1
          clear hP hn1
          go_upto_region 5 with fail
          go_quiet (fail)
          go_wp2_with fail
          go_roundg (g - 1)
          case measure => rw [HGK.out]; omega
          case rel => exact ⟨g - 1, l + v1, rfl, congrArg (Value.int .u64) (show ((g : Int) - 1) = ((g - 1 : Nat) : Int) by omega), congrArg (Value.int .u64) (show ((l : Int) + (v1 : Int)) = ((l + v1 : Nat) : Int) by omega), HN.out, by omega, by omega, by first | exact hb | exact below_drewN hb _⟩
      · have hgBi : ¬ (g : Int) < 1000000000 := by omega
        have hgBd : decide ((g : Int) < 1000000000) = false := by simp; omega
        have hgs := guess_big HK.out (by rw [HTE.out]; exact HI.out) (show BW ≤ g by show 1000000000 ≤ g; omega)
        rw [HTE.out] at hgs
        have HN := Lib.hid hgs
        clear hgs
        go_upto_region 5 with fail
        go_quiet (fail)
        go_wp2_with fail
        go_roundg (g - 1)
        case measure => rw [HGK.out]; omega
        case rel => exact ⟨g - 1, l + v1, rfl, congrArg (Value.int .u64) (show ((g : Int) - 1) = ((g - 1 : Nat) : Int) by omega), congrArg (Value.int .u64) (show ((l : Int) + (v1 : Int)) = ((l + v1 : Nat) : Int) by omega), HN.out, by omega, by omega, by first | exact hb | exact below_drewN hb _⟩

end Go.Proofs.YtimcbmgmngkagaaGreatDoor

namespace Go.Proofs.YtimcbmgmngkagaaGreatDoor
open Go.RowKit

set_option maxRecDepth 100000 in
set_option maxHeartbeats 4000000 in
theorem subtractTimes_any (B at_ m k : Nat) (cc d : Nat) (pre z0 post : List Nat) (q : Option Addr) (ys : List Nat) (t : Nat) (w : World) (hat : pre.length = at_) (hm : z0.length = m) (hk : k + 1 = m) (hm1 : m ≤ 1000000000) (ha1 : at_ ≤ 1000000000)
    (how : Own .u64 117 w B (pre ++ z0 ++ post)) (hy : Rd .u64 w q k ys) (hne : ∀ b o, q = some ⟨b, o, none⟩ → b ≠ B) (gz : Dg BW z0) (gy : Dg BW ys) (ht : t < BW) :
    Calls Tryz.prog 191 #[.slice (some ⟨B, at_, none⟩) m cc, .slice q k d, .int .u64 (t : Int)] w fun e w' => ∃ zs b, b ≤ 1 ∧ e = .returned (.bool (decide (b = 1))) ∧ zs.length = m ∧ Dg BW zs ∧ dv BW zs + t * dv BW ys = dv BW z0 + BW ^ m * b ∧ Own .u64 117 w' B (pre ++ zs ++ post) ∧ w.grownBy w' (some B) := by
  have HAT := Lib.hid hat
  have HM := Lib.hid hm
  have HY := Lib.hid hy
  have HNE := Lib.hid hne
  have hyl := hy.1
  have HYL := Lib.hid hyl
  have ht' : t < 1000000000 := ht
  clear hat hm hy hne hyl
  go_enter Tryz.func191, Tryz.ntmps191
  go_wp2
  go_loopg [7, 8, 14] m (fun gk v7 v8 v14 wr => ∃ (j : Nat) (zs : List Nat) (c b : Nat), j ≤ m ∧ gk = m - j ∧ v7 = .int .u64 (c : Int) ∧ v8 = .int .u64 (b : Int) ∧ v14 = .int .i64 (j : Int) ∧ Hid (SubT ys z0 zs t j c b) ∧ Own .u64 117 wr B (pre ++ zs ++ post) ∧ w.grownBy wr (some B))
  case atStart => exact ⟨0, z0, 0, 0, Nat.zero_le _, rfl, rfl, rfl, rfl, SubT.start gz, how, ⟨rfl, rfl, rfl, Nat.le_refl _, fun _ _ _ => rfl⟩⟩
  case round =>
    obtain ⟨j, zs, c, b, hj, hgk, rfl, rfl, rfl, HS, hown, hg⟩ := hrel
    have HGK := Lib.hid hgk
    clear hgk
    have hb1 : b ≤ 1 := HS.out.2.2.2.1
    have hc1000 : c < 1000000000 := HS.out.2.2.1
    have HZL := Lib.hid HM.out
    by_cases hlt : j < m
    · have hji : (j : Int) < (m : Int) := by omega
      have hjz : j < zs.length := by rw [HS.out.1, HM.out]; exact hlt
      obtain ⟨wd, hwd⟩ : ∃ wd, z0[j]?.getD 0 = wd := ⟨_, rfl⟩
      have hwz : zs[j]?.getD 0 = wd := by rw [HS.out.2.2.2.2.2.2 j (Nat.le_refl _)]; exact hwd
      have hw9 : wd < 1000000000 := by rw [← hwd]; exact gz.get (by decide) j
      have hcell := hown.cell (at_ + j) (by rw [List.length_append, List.length_append, HAT.out]; omega)
      rw [← HAT.out, seg_get pre zs post hjz, hwz, HAT.out] at hcell
      have hfr := hown.frozen (at_ + j)
      have HWD := Lib.hid hwd
      clear hwd hwz
      obtain ⟨y, hyv⟩ : ∃ y, ys[j]?.getD 0 = y := ⟨_, rfl⟩
      have hy9 : y < 1000000000 := by rw [← hyv]; exact gy.get (by decide) j
      obtain ⟨P, hP⟩ : ∃ P, t * y = P := ⟨_, rfl⟩
      have hPc : (t : Int) * (y : Int) = (P : Int) := by rw [← hP]; simp
      obtain ⟨pp1, pp2⟩ := prod_bound ht' hy9
      rw [hPc] at pp1 pp2
      obtain ⟨c1, hc1d⟩ : ∃ c1, c + P = c1 := ⟨_, rfl⟩
      have hc1 : c + t * ys[j]?.getD 0 = c1 := by rw [hyv, hP]; exact hc1d
      obtain ⟨R, hRe⟩ : ∃ R, c1 % BW = R := ⟨_, rfl⟩
      obtain ⟨Q, hQe⟩ : ∃ Q, c1 / BW = Q := ⟨_, rfl⟩
      have hRe' : (c + P) % 1000000000 = R := by rw [hc1d]; exact hRe
      have hQe' : (c + P) / 1000000000 = Q := by rw [hc1d]; exact hQe
      have hR9 : R < 1000000000 := by omega
      have hQ9 : Q < 1000000000 := by omega
      have HRE := Lib.hid hRe
      have HQE := Lib.hid hQe
      by_cases hjk : j < k
      · have hjki : (j : Int) < (k : Int) := by omega
        obtain ⟨b2, off2, hq2, hbl2, hcell2⟩ := ((HY.out).grownB HNE.out hg).2 j hjk
        rw [hyv] at hcell2
        subst hq2
        clear hyv hP hRe hQe hc1d
        have hR : ((c : Int) + (P : Int)) % 1000000000 = (R : Int) := by omega
        have hQ : ((c : Int) + (P : Int)) / 1000000000 = (Q : Int) := by omega
        by_cases hlw : wd < R + b
        · obtain ⟨x, hx⟩ : ∃ x, wd + 1000000000 - (R + b) = x := ⟨_, rfl⟩
          have hlwi : (wd : Int) < (R : Int) + (b : Int) := by omega
          have hxi : (wd : Int) + 1000000000 - ((R : Int) + (b : Int)) = (x : Int) := by omega
          have hst := HS.out.step (c1 := c1) (x := x) (b' := 1) (by rw [HZL.out]; exact hlt) gy ht hc1 (by rw [HWD.out, HRE.out]; show x + (R + b) = wd + 1000000000 * 1; omega) (show x < 1000000000 by omega) (Nat.le_refl _)
          have hown2 := hown.set (at_ + j) x
          rw [← HAT.out, seg_set pre zs post hjz] at hown2
          have HST := Lib.hid hst
          have HOW := Lib.hid hown2
          have HC1 := Lib.hid hc1
          clear hst hown2 hx hc1
          go_wp2
          go_roundg (m - (j + 1))
          case measure => rw [HGK.out]; omega
          case rel => exact ⟨j + 1, zs.set j x, Q, 1, by omega, rfl, (by first | rfl | exact congrArg (Value.int .u64) hQ), rfl, by go_num, by show SubT _ _ _ _ _ _ _; have := HST.out; rw [HQE.out] at this; exact this, by rw [← HAT.out]; exact HOW.out, grown_put hg _ _⟩
        · obtain ⟨x, hx⟩ : ∃ x, wd - (R + b) = x := ⟨_, rfl⟩
          have hlwi : ¬ (wd : Int) < (R : Int) + (b : Int) := by omega
          have hxi : (wd : Int) - ((R : Int) + (b : Int)) = (x : Int) := by omega
          have hst := HS.out.step (c1 := c1) (x := x) (b' := 0) (by rw [HZL.out]; exact hlt) gy ht hc1 (by rw [HWD.out, HRE.out]; show x + (R + b) = wd + 1000000000 * 0; omega) (show x < 1000000000 by omega) (Nat.zero_le _)
          have hown2 := hown.set (at_ + j) x
          rw [← HAT.out, seg_set pre zs post hjz] at hown2
          have HST := Lib.hid hst
          have HOW := Lib.hid hown2
          have HC1 := Lib.hid hc1
          clear hst hown2 hx hc1
          go_wp2
          go_roundg (m - (j + 1))
          case measure => rw [HGK.out]; omega
          case rel => exact ⟨j + 1, zs.set j x, Q, 0, by omega, rfl, (by first | rfl | exact congrArg (Value.int .u64) hQ), rfl, by go_num, by show SubT _ _ _ _ _ _ _; have := HST.out; rw [HQE.out] at this; exact this, by rw [← HAT.out]; exact HOW.out, grown_put hg _ _⟩
      · have hjki : ¬ (j : Int) < (k : Int) := by omega
        have hy0 : y = 0 := by rw [← hyv, List.getElem?_eq_none (by rw [HYL.out]; omega)]; rfl
        have hP0 : P = 0 := by rw [← hP, hy0, Nat.mul_zero]
        have hRc : R = c := by omega
        have hQ0 : Q = 0 := by omega
        clear hyv hP hRe hQe hc1d hPc
        have hR : (c : Int) % 1000000000 = (R : Int) := by omega
        have hQ : (c : Int) / 1000000000 = (Q : Int) := by omega
        clear hy0 hP0 hRc hQ0 hRe' hQe'
        by_cases hlw : wd < R + b
        · obtain ⟨x, hx⟩ : ∃ x, wd + 1000000000 - (R + b) = x := ⟨_, rfl⟩
          have hlwi : (wd : Int) < (R : Int) + (b : Int) := by omega
          have hxi : (wd : Int) + 1000000000 - ((R : Int) + (b : Int)) = (x : Int) := by omega
          have hst := HS.out.step (c1 := c1) (x := x) (b' := 1) (by rw [HZL.out]; exact hlt) gy ht hc1 (by rw [HWD.out, HRE.out]; show x + (R + b) = wd + 1000000000 * 1; omega) (show x < 1000000000 by omega) (Nat.le_refl _)
          have hown2 := hown.set (at_ + j) x
          rw [← HAT.out, seg_set pre zs post hjz] at hown2
          have HST := Lib.hid hst
          have HOW := Lib.hid hown2
          have HC1 := Lib.hid hc1
          clear hst hown2 hx hc1
          go_wp2
          go_roundg (m - (j + 1))
          case measure => rw [HGK.out]; omega
          case rel => exact ⟨j + 1, zs.set j x, Q, 1, by omega, rfl, (by first | rfl | exact congrArg (Value.int .u64) hQ), rfl, by go_num, by show SubT _ _ _ _ _ _ _; have := HST.out; rw [HQE.out] at this; exact this, by rw [← HAT.out]; exact HOW.out, grown_put hg _ _⟩
        · obtain ⟨x, hx⟩ : ∃ x, wd - (R + b) = x := ⟨_, rfl⟩
          have hlwi : ¬ (wd : Int) < (R : Int) + (b : Int) := by omega
          have hxi : (wd : Int) - ((R : Int) + (b : Int)) = (x : Int) := by omega
          have hst := HS.out.step (c1 := c1) (x := x) (b' := 0) (by rw [HZL.out]; exact hlt) gy ht hc1 (by rw [HWD.out, HRE.out]; show x + (R + b) = wd + 1000000000 * 0; omega) (show x < 1000000000 by omega) (Nat.zero_le _)
          have hown2 := hown.set (at_ + j) x
          rw [← HAT.out, seg_set pre zs post hjz] at hown2
          have HST := Lib.hid hst
          have HOW := Lib.hid hown2
          have HC1 := Lib.hid hc1
          clear hst hown2 hx hc1
          go_wp2
          go_roundg (m - (j + 1))
          case measure => rw [HGK.out]; omega
          case rel => exact ⟨j + 1, zs.set j x, Q, 0, by omega, rfl, (by first | rfl | exact congrArg (Value.int .u64) hQ), rfl, by go_num, by show SubT _ _ _ _ _ _ _; have := HST.out; rw [HQE.out] at this; exact this, by rw [← HAT.out]; exact HOW.out, grown_put hg _ _⟩
    · have hji : ¬ (j : Int) < (m : Int) := by omega
      obtain rfl : j = m := by omega
      obtain ⟨f1, f2, f3, f4⟩ := SubT.done (by rw [HM.out]; exact HS.out) gy ht (by rw [HM.out, HYL.out]; omega)
      rw [HM.out] at f4 f1
      have HF := Lib.hid (And.intro f1 (And.intro f2 f4))
      clear f1 f2 f4
      have hb01 : b = 0 ∨ b = 1 := by omega
      rcases hb01 with rfl | rfl
      · go_wp2
        go_ret
        exact ⟨zs, 0, by omega, rfl, HF.out.1, HF.out.2.1, HF.out.2.2, by first | exact hown | (rw [List.append_assoc] at hown; exact hown), hg⟩
      · go_wp2
        go_ret
        exact ⟨zs, 1, by omega, rfl, HF.out.1, HF.out.2.1, HF.out.2.2, by first | exact hown | (rw [List.append_assoc] at hown; exact hown), hg⟩

set_option maxRecDepth 100000 in
set_option maxHeartbeats 4000000 in
theorem addBack_any (B at_ m k : Nat) (cc d : Nat) (pre z0 post : List Nat) (q : Option Addr) (ys : List Nat) (w : World) (hat : pre.length = at_) (hm : z0.length = m) (hk : k ≤ m) (hm1 : m ≤ 1000000000) (ha1 : at_ ≤ 1000000000)
    (how : Own .u64 117 w B (pre ++ z0 ++ post)) (hy : Rd .u64 w q k ys) (hne : ∀ b o, q = some ⟨b, o, none⟩ → b ≠ B) (gz : Dg BW z0) (gy : Dg BW ys) :
    Calls Tryz.prog 192 #[.slice (some ⟨B, at_, none⟩) m cc, .slice q k d] w fun e w' => ∃ zs c, c ≤ 1 ∧ e = .returned (.tuple #[]) ∧ zs.length = m ∧ Dg BW zs ∧ dv BW zs + BW ^ m * c = dv BW z0 + dv BW ys ∧ Own .u64 117 w' B (pre ++ zs ++ post) ∧ w.grownBy w' (some B) := by
  have HAT := Lib.hid hat
  have HM := Lib.hid hm
  have HY := Lib.hid hy
  have HNE := Lib.hid hne
  have hyl := hy.1
  have HYL := Lib.hid hyl
  clear hat hm hy hne hyl
  go_enter Tryz.func192, Tryz.ntmps192
  go_wp2
  go_loopg [4, 9] m (fun gk v4 v9 wr => ∃ (j : Nat) (zs : List Nat) (c : Nat), j ≤ m ∧ gk = m - j ∧ v4 = .int .u64 (c : Int) ∧ v9 = .int .i64 (j : Int) ∧ Hid (AddT ys z0 zs j c) ∧ Own .u64 117 wr B (pre ++ zs ++ post) ∧ w.grownBy wr (some B))
  case atStart => exact ⟨0, z0, 0, Nat.zero_le _, rfl, rfl, rfl, AddT.start gz, how, ⟨rfl, rfl, rfl, Nat.le_refl _, fun _ _ _ => rfl⟩⟩
  case round =>
    obtain ⟨j, zs, c, hj, hgk, rfl, rfl, HS, hown, hg⟩ := hrel
    have HGK := Lib.hid hgk
    clear hgk
    have hc1 : c ≤ 1 := HS.out.2.2.1
    have HZL := Lib.hid HM.out
    by_cases hlt : j < m
    · have hji : (j : Int) < (m : Int) := by omega
      have hjz : j < zs.length := by rw [HS.out.1, HM.out]; exact hlt
      obtain ⟨wd, hwd⟩ : ∃ wd, z0[j]?.getD 0 = wd := ⟨_, rfl⟩
      have hwz : zs[j]?.getD 0 = wd := by rw [HS.out.2.2.2.2 j (Nat.le_refl _)]; exact hwd
      have hw9 : wd < 1000000000 := by rw [← hwd]; exact gz.get (by decide) j
      have hcell := hown.cell (at_ + j) (by rw [List.length_append, List.length_append, HAT.out]; omega)
      rw [← HAT.out, seg_get pre zs post hjz, hwz, HAT.out] at hcell
      have hfr := hown.frozen (at_ + j)
      obtain ⟨y, hyv⟩ : ∃ y, ys[j]?.getD 0 = y := ⟨_, rfl⟩
      have hy9 : y < 1000000000 := by rw [← hyv]; exact gy.get (by decide) j
      obtain ⟨s, hse⟩ : ∃ s, c + wd + y = s := ⟨_, rfl⟩
      have hsd : c + z0[j]?.getD 0 + ys[j]?.getD 0 = s := by rw [hwd, hyv]; exact hse
      obtain ⟨R, hRe⟩ : ∃ R, s % BW = R := ⟨_, rfl⟩
      obtain ⟨Q, hQe⟩ : ∃ Q, s / BW = Q := ⟨_, rfl⟩
      have hRe' : (c + wd + y) % 1000000000 = R := by rw [hse]; exact hRe
      have hQe' : (c + wd + y) / 1000000000 = Q := by rw [hse]; exact hQe
      have hR9 : R < 1000000000 := by omega
      have hQ9 : Q < 1000000000 := by omega
      have HRE := Lib.hid hRe
      have HQE := Lib.hid hQe
      by_cases hjk : j < k
      · have hjki : (j : Int) < (k : Int) := by omega
        obtain ⟨b2, off2, hq2, hbl2, hcell2⟩ := ((HY.out).grownB HNE.out hg).2 j hjk
        rw [hyv] at hcell2
        subst hq2
        clear hyv hRe hQe hse hwd hwz
        have hR : ((c : Int) + (wd : Int) + (y : Int)) % 1000000000 = (R : Int) := by omega
        have hQ : ((c : Int) + (wd : Int) + (y : Int)) / 1000000000 = (Q : Int) := by omega
        have hst := HS.out.step (s := s) (by rw [HZL.out]; exact hlt) gz gy hsd
        have hown2 := hown.set (at_ + j) R
        rw [← HAT.out, seg_set pre zs post hjz] at hown2
        have HST := Lib.hid hst
        have HOW := Lib.hid hown2
        clear hst hown2 hsd
        go_wp2
        go_roundg (m - (j + 1))
        case measure => rw [HGK.out]; omega
        case rel => exact ⟨j + 1, zs.set j R, Q, by omega, rfl, (by first | rfl | exact congrArg (Value.int .u64) hQ), by go_num, by show AddT _ _ _ _ _; have := HST.out; rw [HRE.out, HQE.out] at this; exact this, by rw [← HAT.out]; first | exact HOW.out | (rw [hR]; exact HOW.out), grown_put hg _ _⟩
      · have hjki : ¬ (j : Int) < (k : Int) := by omega
        have hy0 : y = 0 := by rw [← hyv, List.getElem?_eq_none (by rw [HYL.out]; omega)]; rfl
        clear hyv hRe hQe hse hwd hwz
        have hR : ((c : Int) + (wd : Int)) % 1000000000 = (R : Int) := by omega
        have hQ : ((c : Int) + (wd : Int)) / 1000000000 = (Q : Int) := by omega
        clear hy0 hRe' hQe'
        have hst := HS.out.step (s := s) (by rw [HZL.out]; exact hlt) gz gy hsd
        have hown2 := hown.set (at_ + j) R
        rw [← HAT.out, seg_set pre zs post hjz] at hown2
        have HST := Lib.hid hst
        have HOW := Lib.hid hown2
        clear hst hown2 hsd
        go_wp2
        go_roundg (m - (j + 1))
        case measure => rw [HGK.out]; omega
        case rel => exact ⟨j + 1, zs.set j R, Q, by omega, rfl, (by first | rfl | exact congrArg (Value.int .u64) hQ), by go_num, by show AddT _ _ _ _ _; have := HST.out; rw [HRE.out, HQE.out] at this; exact this, by rw [← HAT.out]; first | exact HOW.out | (rw [hR]; exact HOW.out), grown_put hg _ _⟩
    · have hji : ¬ (j : Int) < (m : Int) := by omega
      obtain rfl : j = m := by omega
      obtain ⟨f1, f2, f3, f4⟩ := AddT.done (by rw [HM.out]; exact HS.out) (by rw [HM.out, HYL.out]; omega)
      rw [HM.out] at f4 f1
      have HF := Lib.hid (And.intro f1 (And.intro f2 f4))
      clear f1 f2 f4
      go_wp2
      go_end0
      exact ⟨zs, c, hc1, rfl, HF.out.1, HF.out.2.1, HF.out.2.2, by first | exact hown | (rw [List.append_assoc] at hown; exact hown), hg⟩

end Go.Proofs.YtimcbmgmngkagaaGreatDoor
