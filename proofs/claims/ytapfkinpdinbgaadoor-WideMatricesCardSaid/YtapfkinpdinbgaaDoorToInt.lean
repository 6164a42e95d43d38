/-
  int64 to string and back.
-/
import Derived.Test.YtapfkinpdinbgaaDoorWritten
import Derived.Test.YtapfkinpdinbgaaDoorIs
import Derived.Lib.AtoiErrMem
namespace Go.Proofs.YtapfkinpdinbgaaDoor
open Go.RowKit Go.Sort

def inI64 (z : Int) : Bool := decide (-9223372036854775808 ≤ z ∧ z ≤ 9223372036854775807)

theorem fold_le (l : List UInt8) : ∀ acc, acc ≤ l.foldl (fun a c => a * 10 + (c.toNat - 48)) acc := by
  induction l with
  | nil => intro acc; exact Nat.le_refl _
  | cons c r ih => intro acc; rw [List.foldl_cons]; exact Nat.le_trans (by omega) (ih _)

theorem parseM_digits (l : List UInt8) : ∀ acc F, l.foldl (fun a c => a * 10 + (c.toNat - 48)) acc = F → l.all isDg = true → acc ≤ 18446744073709551615 → Lib.parseUintM (2 ^ 64 - 1) acc l = if F ≤ 18446744073709551615 then .ok F else .range := by
  induction l with
  | nil => intro acc F hF _ h; rw [← hF]; exact (if_pos h).symm
  | cons c r ih =>
    intro acc F hF hd h
    rw [List.all_cons, Bool.and_eq_true] at hd
    rw [List.foldl_cons] at hF
    have hc : 48 ≤ c.toNat ∧ c.toNat ≤ 57 := by simpa [isDg] using hd.1
    have hle := fold_le r (acc * 10 + (c.toNat - 48))
    rw [hF] at hle
    unfold Lib.parseUintM
    rw [if_pos hc]
    by_cases h1 : 1844674407370955162 ≤ acc
    · rw [if_pos h1, if_neg (by omega)]
    · rw [if_neg h1]
      by_cases h2 : 2 ^ 64 - 1 < acc * 10 + (c.toNat - 48)
      · rw [if_pos h2, if_neg (by omega)]
      · rw [if_neg h2]
        exact ih _ _ hF hd.2 (by omega)

theorem numB_len {l : List UInt8} (h : numB l = true) : l.length ≤ 2001 := by
  unfold numB at h
  rw [Bool.and_eq_true] at h
  have h2 : (digitsOf l).length ≤ 2000 := by simpa using h.2
  have h3 : l.length ≤ (digitsOf l).length + 1 := by
    cases l with
    | nil => simp
    | cons c r => by_cases hc : c = 45 <;> simp [digitsOf, hc]
  omega

theorem parse_num {l : List UInt8} (h : numB l = true) : Lib.parseIntB 64 l = if inI64 (strV l) then .ok (strV l) else .range := by
  have hp : plainB l = true := by unfold numB at h; rw [Bool.and_eq_true] at h; exact h.1
  unfold plainB at hp
  rw [Bool.and_eq_true, Bool.and_eq_true] at hp
  obtain ⟨⟨h1, h2⟩, _⟩ := hp
  have hu : Lib.parseUintB 64 (digitsOf l) = if decV (digitsOf l) ≤ 18446744073709551615 then .ok (decV (digitsOf l)) else .range := by
    unfold Lib.parseUintB
    rw [if_neg (by intro e; rw [e] at h1; simp at h1)]
    exact parseM_digits _ 0 _ rfl h2 (by omega)
  match l, h1, h2, hu with
  | [], h1, _, _ => simp [digitsOf] at h1
  | c :: r, h1, h2, hu =>
    by_cases hc : c = 45
    · subst hc
      have e : digitsOf (45 :: r) = r := rfl
      rw [e] at hu h1
      rw [Lib.parseIntB_minus, hu]
      have ev : strV (45 :: r) = -(decV r : Int) := rfl
      rw [ev]
      generalize decV r = D
      unfold inI64
      by_cases hD : D ≤ 18446744073709551615
      · rw [if_pos hD]
        simp only [Lib.signedC]
        by_cases h3 : 2 ^ (64 - 1) < D
        · rw [if_pos h3, if_neg (by simp; omega)]
        · rw [if_neg h3, if_pos (by simp; omega)]
      · rw [if_neg hD, if_neg (by simp; omega)]
        rfl
    · have e : digitsOf (c :: r) = c :: r := by simp [digitsOf, hc]
      rw [e] at hu h2
      have hd : 48 ≤ c.toNat ∧ c.toNat ≤ 57 := by
        rw [List.all_cons, Bool.and_eq_true] at h2
        simpa [isDg] using h2.1
      rw [Lib.parseIntB_plain 64 c r (by omega) (by omega), hu]
      have ev : strV (c :: r) = (decV (c :: r) : Int) := by
        unfold strV
        rw [e]
        have : isNeg (c :: r) = false := by simp [isNeg, hc]
        rw [this]; rfl
      rw [ev]
      generalize decV (c :: r) = D
      unfold inI64
      by_cases hD : D ≤ 18446744073709551615
      · rw [if_pos hD]
        simp only [Lib.signlessC]
        by_cases h3 : 2 ^ (64 - 1) ≤ D
        · rw [if_pos h3, if_neg (by simp; omega)]
        · rw [if_neg h3, if_pos (by simp; omega)]
      · rw [if_neg hD, if_neg (by simp; omega)]
        rfl

/-- The variable strconv.ErrRange holds an error, or nothing. -/
def ErrLaid (w : World) : Prop := ∃ ev, w.cell? ⟨1, 0, none⟩ = some ev ∧ (ev = .nilIface ∨ ∃ te pe, ev = .iface te pe)
theorem ErrLaid.below {w w' : World} (h : ErrLaid w) (hb : Below w.heap.size w w') : ErrLaid w' := by
  obtain ⟨ev, h1, h2⟩ := h
  exact ⟨ev, (hb.cell (World.block_lt_of_cell? _ _ h1)).trans h1, h2⟩

/-- What ToInt hands back. -/
def toOk (l : List UInt8) : Bool := numB l && inI64 (strV l)
def toInt (l : List UInt8) : Int := if toOk l then strV l else 0

set_option maxHeartbeats 1000000 in
theorem toInt_any (s : ByteArray) (w : World) (hs : s.size ≤ maxLen) (herr : ErrLaid w) :
    Calls Tryd.prog 12 #[.string s] w fun e w' => e = .returned (.tuple #[.int .i64 (toInt s.data.toList), .bool (toOk s.data.toList)]) ∧ Below w.heap.size w w' := by
  cases hn : numB s.data.toList
  · have h1 : toOk s.data.toList = false := by unfold toOk; rw [hn]; rfl
    have h2 : toInt s.data.toList = 0 := by unfold toInt; rw [if_neg (by rw [h1]; simp)]
    rw [h1, h2]
    have HN := Lib.hid hn
    clear h1 h2 hn
    go_enter Tryd.func12, Tryd.ntmps12
    go_wp2_with (go_at_call 13; refine (is_any s _ hs).mono ?_; rintro e w1 ⟨rfl, hb1⟩; rw [HN.out])
    go_ret2
    exact ⟨rfl, hb1⟩
  · have hl : s.size ≤ 2001 := numB_len hn
    cases hi : inI64 (strV s.data.toList)
    · have h1 : toOk s.data.toList = false := by unfold toOk; rw [hn, hi]; rfl
      have h2 : toInt s.data.toList = 0 := by unfold toInt; rw [if_neg (by rw [h1]; simp)]
      have h3 : Lib.parseIntB 64 s.data.toList = .range := by rw [parse_num hn, hi]; rfl
      rw [h1, h2]
      have HN := Lib.hid hn
      clear h1 h2 hn
      go_enter Tryd.func12, Tryd.ntmps12
      go_wp2_with (first
        | (go_at_call 13; refine (is_any s _ hs).mono ?_; rintro e w1 ⟨rfl, hb1⟩; rw [HN.out]; obtain ⟨ev, g1, g2⟩ := herr.below hb1)
        | (go_at_call 42; refine (Tryd.strconv_ParseInt_10_at64_range s (by omega) h3 ev _ g1 g2).mono ?_; rintro e w2 ⟨N, rfl, _, _, hb2⟩))
      go_ret2
      exact ⟨rfl, hb1.trans (hb2.mono hb1.size)⟩
    · have h1 : toOk s.data.toList = true := by unfold toOk; rw [hn, hi]; rfl
      have h2 : toInt s.data.toList = strV s.data.toList := by unfold toInt; rw [if_pos h1]
      have h3 : Lib.parseIntB 64 s.data.toList = .ok (strV s.data.toList) := by rw [parse_num hn, hi]; rfl
      rw [h1, h2]
      have HN := Lib.hid hn
      clear h1 h2 hn
      go_enter Tryd.func12, Tryd.ntmps12
      go_wp2_with (first
        | (go_at_call 13; refine (is_any s _ hs).mono ?_; rintro e w1 ⟨rfl, hb1⟩; rw [HN.out])
        | (go_at_call 42; refine (Tryd.strconv_ParseInt_10_at64_ok s (by omega) _ h3 _).mono ?_; rintro e w2 ⟨rfl, hb2⟩))
      go_ret2
      refine ⟨rfl, hb1.trans ?_⟩
      rcases hb2 with rfl | ⟨t, rfl⟩
      · exact (Below.refl _ _).mono hb1.size
      · exact (Lib.bytesWorld_below _ _ _).mono hb1.size


theorem grow_below (w : World) (k : Nat) (os : Array Obj) : Below w.heap.size w (grow (w.drewN k) os) :=
  ⟨rfl, rfl, rfl, by show w.heap.size ≤ (w.heap ++ os).size; simp, fun i hi => by show (w.heap ++ os)[i]? = _; rw [Array.getElem?_append_left hi]⟩

set_option maxHeartbeats 400000 in
theorem fromInt_any (n : Int) (h0 : -9223372036854775808 ≤ n) (h1 : n ≤ 9223372036854775807) (w : World) (htab : Tab w) :
    Calls Tryd.prog 18 #[.int .i64 n] w fun e w' => e = .returned (.string ⟨(Lib.itoa n).toArray⟩) ∧ Below w.heap.size w w' := by
  go_enter Tryd.func18, Tryd.ntmps18
  go_wp2_with (go_at_call 47; refine (Tryd.strconv_FormatInt_10 n h0 h1 _ htab).mono ?_; rintro e w1 ⟨rfl, k, os, rfl⟩)
  go_ret
  exact ⟨rfl, grow_below _ _ _⟩

end Go.Proofs.YtapfkinpdinbgaaDoor
