/-
  WideDeterminants: matrices of texts; what is asked of them.
-/
import Derived.Test.YtapfkinpdinbgaaDoorRefDet
import Derived.Test.YtapfkinpdinbgaaDoorSquareW
import Derived.Test.YtapfkinpdinbgaaDoorDetApi
namespace Go.Proofs.YtapfkinpdinbgaaDoor
open Go.RowKit

def bA (s : List UInt8) : ByteArray := ⟨s.toArray⟩
theorem RdL.toS {w : World} {a : Option Addr} {l : List (List UInt8)} (h : RdL w a l) : RdS w a (l.map bA) := by
  intro i s hs
  rw [List.getElem?_map, Option.map_eq_some_iff] at hs
  obtain ⟨t, ht, rfl⟩ := hs
  exact h i t ht
theorem allB_map (l : List (List UInt8)) : allB (l.map bA) = allN l := by
  unfold allB allN
  rw [List.all_map]
  congr 1
theorem vals_map (l : List (List UInt8)) : vals (l.map bA) = l.map strV := by
  unfold vals
  rw [List.map_map]
  refine List.map_congr_left fun s _ => ?_
  show strV (⟨s.toArray⟩ : ByteArray).data.toList = strV s
  rw [bytes_data]
theorem RdLL.toM {w : World} {a : Option Addr} {rows : List (List (List UInt8))} (h : RdLL w a rows) : RdM w a (rows.map (List.map bA)) := by
  intro i row hi
  rw [List.getElem?_map, Option.map_eq_some_iff] at hi
  obtain ⟨r, hr, rfl⟩ := hi
  obtain ⟨b, off, q, c, ha, hlt, hc, hrd⟩ := h i r hr
  exact ⟨b, off, q, c, ha, hlt, by rw [List.length_map]; exact hc, hrd.toS⟩

/-- All are numbers; the matrix is a square that is not too large. -/
def allR (rows : List (List (List UInt8))) : Bool := rows.all allN
def sqR (rows : List (List (List UInt8))) : Bool := decide (rows.length ≤ 6) && rows.all fun r => decide (r.length = rows.length)
/-- The error that is asked. -/
def wantE (rows : List (List (List UInt8))) : Int := if allR rows then (if sqR rows then 0 else 1) else 6

theorem numsB_map (rows : List (List (List UInt8))) : numsB (rows.map (List.map bA)) = allR rows := by
  unfold numsB allR
  rw [List.all_map]
  congr 1
  funext r
  exact allB_map r
theorem sqB_map (rows : List (List (List UInt8))) : sqB (rows.map (List.map bA)).length (rows.map (List.map bA)) = sqR rows := by
  unfold sqB sqR
  rw [List.all_map, List.length_map]
  congr 2
  funext r
  show decide ((r.map bA).length = rows.length) = decide (r.length = rows.length)
  rw [List.length_map]
theorem valRows_map (rows : List (List (List UInt8))) : (rows.map (List.map bA)).map vals = valRows rows := by
  rw [List.map_map]
  unfold valRows
  refine List.map_congr_left fun r _ => ?_
  exact vals_map r

/-- Determinant of texts. -/
theorem detL_any (p : Option Addr) (n c : Nat) (rows : List (List (List UInt8))) (w : World) (hl : rows.length = n) (hn : n ≤ 1000) (hr : RdLL w p rows) (hs : ∀ row ∈ rows, row.length ≤ 1000 ∧ ∀ s ∈ row, s.length ≤ 1000000000) (htab : Tab w) :
    Calls Tryd.prog 35 #[.slice p n c] w fun e w' => (wantE rows ≠ 0 → e = .returned (.tuple #[.string ⟨#[]⟩, .int .i64 (wantE rows)])) ∧ (wantE rows = 0 → e = .returned (.tuple #[.string ⟨(outS (detZ (valRows rows))).toArray⟩, .int .i64 (outE (detZ (valRows rows)))])) ∧ Below w.heap.size w w' := by
  have h := det_any p n c (rows.map (List.map bA)) w (by rw [List.length_map]; exact hl) (by omega) hr.toM (by
    intro row hrow
    obtain ⟨r, hr', rfl⟩ := List.mem_map.1 hrow
    obtain ⟨h1, h2⟩ := hs r hr'
    refine ⟨by rw [List.length_map]; omega, fun s hs' => ?_⟩
    obtain ⟨t, ht, rfl⟩ := List.mem_map.1 hs'
    exact bytes_small (h2 t ht)) htab
  refine h.mono ?_
  rintro e w' ⟨rfl, hb⟩
  unfold detStr detErr wantE
  rw [numsB_map, sqB_map, valRows_map]
  refine ⟨fun h0 => ?_, fun h0 => ?_, hb⟩
  · by_cases h1 : allR rows = true
    · rw [if_pos h1, if_pos h1] at *
      by_cases h2 : sqR rows = true
      · rw [if_pos h2] at h0; exact absurd rfl h0
      · rw [if_neg h2, if_neg h2, if_pos h1, if_neg h2]
    · rw [if_neg h1, if_neg h1, if_neg h1]
  · by_cases h1 : allR rows = true
    · rw [if_pos h1] at h0
      by_cases h2 : sqR rows = true
      · rw [if_pos h1, if_pos h2, if_pos h1, if_pos h2]
      · rw [if_neg h2] at h0; cases h0
    · rw [if_neg h1] at h0; cases h0

theorem wantE_zero {rows : List (List (List UInt8))} (h : wantE rows = 0) : allR rows = true ∧ rows.length ≤ 6 ∧ ∀ r ∈ rows, r.length = rows.length := by
  unfold wantE at h
  by_cases h1 : allR rows = true
  · rw [if_pos h1] at h
    by_cases h2 : sqR rows = true
    · refine ⟨h1, ?_⟩
      unfold sqR at h2
      simp only [Bool.and_eq_true, decide_eq_true_eq, List.all_eq_true] at h2
      exact h2
    · rw [if_neg h2] at h; cases h
  · rw [if_neg h1] at h; cases h
theorem wantE_cases (rows : List (List (List UInt8))) : wantE rows = 0 ∨ wantE rows = 1 ∨ wantE rows = 6 := by
  unfold wantE; split
  · split
    · exact Or.inl rfl
    · exact Or.inr (Or.inl rfl)
  · exact Or.inr (Or.inr rfl)

/-- Rows that are not large. -/
def Rows8 (rows : List (List (List UInt8))) : Prop := rows.length ≤ 8 ∧ ∀ r ∈ rows, r.length ≤ 8 ∧ ∀ s ∈ r, s.length ≤ 60
theorem small_of {rows : List (List (List UInt8))} (h : Rows8 rows) (ha : allR rows = true) : SmallRows rows := by
  intro r hr
  refine ⟨(h.2 r hr).1, fun s hs => ⟨?_, (h.2 r hr).2 s hs⟩⟩
  exact (List.all_eq_true.1 ((List.all_eq_true.1 ha) r hr)) s hs

/-- A number of few digits is short in decimal. -/
theorem RIs.small {w : World} {neg : Bool} {p : Option Addr} {n c : Nat} {xs : List Nat} {z : Int} (h : RIs w neg p n c xs z) : z.natAbs < 10 ^ (4 * n) := by
  rw [h.val, sv_natAbs, Nat.pow_mul]
  have := dv_lt h.cn.1
  rw [h.rd.1] at this
  exact this

/-- The reference's determinant of the matrix of texts. -/
theorem rdetL_any (p : Option Addr) (n c : Nat) (rows : List (List (List UInt8))) (w : World) (hl : rows.length = n) (hn : n ≤ 6) (hsq : ∀ r ∈ rows, r.length = n) (hr : RdMN w p (valRows rows) 60) :
    Calls Tryd.prog 36 #[.slice p n c] w (RV w (detZ (valRows rows)) (DL n)) := by
  have hvl : (valRows rows).length = n := by unfold valRows; rw [List.length_map]; exact hl
  have hvs : ∀ row ∈ valRows rows, row.length = n := by
    intro row hrow
    obtain ⟨r, hr', rfl⟩ := List.mem_map.1 hrow
    unfold valRow
    rw [List.length_map]; exact hsq r hr'
  have h := rdet_any n hn p c (valRows rows) w hvl hvs hr
  rw [detZ_detR _ (by rw [hvl]; exact hvs), hvl]
  exact h

theorem sqRows_ok (rows0 : List (List (List UInt8))) (N : Nat) (hN : N ≤ 6) : Rows8 (sqF rows0 N N) ∧ wantE (sqF rows0 N N) = 0 ∧ ∀ r ∈ sqF rows0 N N, r.length = N ∧ ∀ s ∈ r, CleanIs 12 s := by
  have hent : ∀ i k, CleanIs 12 (sqEnt rows0 i k) := by
    intro i k
    unfold sqEnt
    split
    · split
      · exact cleanF_is 12 _ (by decide) (by decide)
      · exact clean_zero (by decide)
    · exact clean_zero (by decide)
  have hall : ∀ r ∈ sqF rows0 N N, r.length = N ∧ ∀ s ∈ r, CleanIs 12 s := by
    intro r hr
    unfold sqF at hr
    obtain ⟨i, _, rfl⟩ := List.mem_map.1 hr
    refine ⟨sqRow_len _ _ _, fun s hs => ?_⟩
    unfold sqRow at hs
    obtain ⟨k, _, rfl⟩ := List.mem_map.1 hs
    exact hent i k
  have hlen := sqF_len rows0 N N
  refine ⟨⟨by omega, fun r hr => ?_⟩, ?_, hall⟩
  · obtain ⟨h1, h2⟩ := hall r hr
    exact ⟨by omega, fun s hs => by have := (h2 s hs).2.2; omega⟩
  · have h1 : allR (sqF rows0 N N) = true := by
      unfold allR allN
      rw [List.all_eq_true]
      intro r hr
      rw [List.all_eq_true]
      intro s hs
      exact ((hall r hr).2 s hs).1
    have h2 : sqR (sqF rows0 N N) = true := by
      unfold sqR
      simp only [Bool.and_eq_true, decide_eq_true_eq, List.all_eq_true]
      exact ⟨by omega, fun r hr => by rw [hlen]; exact (hall r hr).1⟩
    unfold wantE
    rw [if_pos h1, if_pos h2]

end Go.Proofs.YtapfkinpdinbgaaDoor
