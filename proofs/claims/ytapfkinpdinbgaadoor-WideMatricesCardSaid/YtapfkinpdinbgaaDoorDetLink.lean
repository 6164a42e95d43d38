/-
  Minors by sets of columns are those of the expansion along the first row.
-/
import Derived.Test.YtapfkinpdinbgaaDoorDetW
namespace Go.Proofs.YtapfkinpdinbgaaDoor

/-- How many columns below n are free. -/
def free : Nat → Nat → Nat
  | 0, _ => 0
  | n + 1, u => free n u + (if u.testBit n then 0 else 1)

/-- The free columns of a row. -/
def selU (u : Nat) (xs : List Int) : Nat → List Int
  | 0 => []
  | j + 1 => selU u xs j ++ (if u.testBit j then [] else [ent xs j])

theorem selU_length (u : Nat) (xs : List Int) : ∀ j, (selU u xs j).length = free j u
  | 0 => rfl
  | j + 1 => by
    unfold selU free
    rw [List.length_append, selU_length u xs j]
    split <;> rfl

/-- Sums with signs that alternate. -/
def altS (xs : List Int) (f : Nat → Int) : Nat → Int
  | 0 => 0
  | c + 1 => altS xs f c + (if c % 2 = 1 then -(ent xs c * f c) else ent xs c * f c)

theorem altS_congr {xs ys : List Int} {f g : Nat → Int} : ∀ (n : Nat), (∀ c, c < n → ent xs c = ent ys c ∧ f c = g c) → altS xs f n = altS ys g n
  | 0, _ => rfl
  | n + 1, h => by
    unfold altS
    rw [altS_congr n (fun c hc => h c (by omega)), (h n (by omega)).1, (h n (by omega)).2]

theorem ent_left {xs ys : List Int} {c : Nat} (h : c < xs.length) : ent (xs ++ ys) c = ent xs c := by
  unfold ent; rw [List.getElem?_append_left h]
theorem ent_last {xs : List Int} {y : Int} {c : Nat} (h : xs.length = c) : ent (xs ++ [y]) c = y := by
  unfold ent; rw [List.getElem?_append_right (by omega), h, Nat.sub_self]; rfl

theorem colS_alt {xs : List Int} {f g : Nat → Int} {u : Nat} : ∀ (j : Nat), (∀ c, c < j → u.testBit c = false → g (free c u) = f c) →
    colS xs f u j = (altS (selU u xs j) g (free j u), decide (free j u % 2 = 1))
  | 0, _ => rfl
  | j + 1, h => by
    have ih := colS_alt (xs := xs) (u := u) j (fun c hc => h c (by omega))
    cases hb : u.testBit j
    · rw [colS_free hb, ih]
      have h1 : free (j + 1) u = free j u + 1 := by show free j u + (if u.testBit j then 0 else 1) = _; rw [hb]; rfl
      have h2 : selU u xs (j + 1) = selU u xs j ++ [ent xs j] := by
        show selU u xs j ++ (if u.testBit j then [] else [ent xs j]) = _; rw [hb]; rfl
      have hl := selU_length u xs j
      rw [h1, h2]
      have h3 : altS (selU u xs j ++ [ent xs j]) g (free j u) = altS (selU u xs j) g (free j u) := altS_congr _ (fun c hc => ⟨ent_left (by omega), rfl⟩)
      have h4 : altS (selU u xs j ++ [ent xs j]) g (free j u + 1) = altS (selU u xs j) g (free j u) + (if free j u % 2 = 1 then -(ent xs j * f j) else ent xs j * f j) := by
        show altS _ g (free j u) + _ = _
        rw [h3, ent_last hl, h j (by omega) hb]
      rw [h4]
      refine Prod.ext ?_ ?_
      · show _ = _
        simp only [decide_eq_true_eq]
      · show (!decide (free j u % 2 = 1)) = decide ((free j u + 1) % 2 = 1)
        rw [Bool.eq_iff_iff]; simp; omega
    · rw [colS_used hb, ih]
      have h1 : free (j + 1) u = free j u := by
        show free j u + (if u.testBit j then 0 else 1) = _; rw [hb]; rfl
      have h2 : selU u xs (j + 1) = selU u xs j := by
        show selU u xs j ++ (if u.testBit j then [] else [ent xs j]) = _; rw [hb]; simp
      rw [h1, h2]

/-- A row without one place. -/
def cutAt (c : Nat) (xs : List Int) : List Int := xs.take c ++ xs.drop (c + 1)

theorem cutAt_left {c : Nat} {xs ys : List Int} (h : c < xs.length) : cutAt c (xs ++ ys) = cutAt c xs ++ ys := by
  unfold cutAt
  rw [List.take_append_of_le_length (by omega), List.drop_append_of_le_length (by omega), List.append_assoc]
theorem cutAt_last {c : Nat} {xs : List Int} {y : Int} (h : xs.length = c) : cutAt c (xs ++ [y]) = xs := by
  unfold cutAt
  rw [List.take_append_of_le_length (by omega), List.take_of_length_le (by omega), List.drop_eq_nil_of_le (by rw [List.length_append]; simp; omega), List.append_nil]

theorem free_lt {u c : Nat} (hc : u.testBit c = false) : ∀ n, c < n → free c u < free n u
  | 0, h => by omega
  | n + 1, h => by
    show free c u < free n u + (if u.testBit n then 0 else 1)
    by_cases e : c = n
    · subst e; rw [hc]; simp
    · have := free_lt hc n (by omega); split <;> omega

theorem selU_or {u c : Nat} (hc : u.testBit c = false) (xs : List Int) : ∀ n, (n ≤ c → selU (u ||| 2 ^ c) xs n = selU u xs n) ∧ (c < n → selU (u ||| 2 ^ c) xs n = cutAt (free c u) (selU u xs n))
  | 0 => ⟨fun _ => rfl, fun h => by omega⟩
  | n + 1 => by
    obtain ⟨ih1, ih2⟩ := selU_or hc xs n
    have hb : (u ||| 2 ^ c).testBit n = (u.testBit n || decide (c = n)) := or_bit u c n
    refine ⟨fun h => ?_, fun h => ?_⟩
    · show selU (u ||| 2 ^ c) xs n ++ (if (u ||| 2 ^ c).testBit n then [] else [ent xs n]) = selU u xs n ++ (if u.testBit n then [] else [ent xs n])
      rw [ih1 (by omega), hb, show decide (c = n) = false by simp; omega, Bool.or_false]
    · show selU (u ||| 2 ^ c) xs n ++ (if (u ||| 2 ^ c).testBit n then [] else [ent xs n]) = cutAt (free c u) (selU u xs n ++ (if u.testBit n then [] else [ent xs n]))
      by_cases e : c = n
      · subst e
        rw [ih1 (Nat.le_refl _), hb, hc]
        simp only [decide_true, Bool.or_true, if_true, List.append_nil, Bool.false_eq_true, if_false]
        exact (cutAt_last (selU_length u xs c)).symm
      · rw [ih2 (by omega), hb, show decide (c = n) = false by simp; omega, Bool.or_false]
        exact (cutAt_left (by rw [selU_length]; exact free_lt hc n (by omega))).symm

/-- The determinant by the first row. -/
def detR : Nat → List (List Int) → Int
  | 0, _ => 1
  | k + 1, M => altS (M.headD []) (fun c => detR k (M.tail.map (cutAt c))) (k + 1)

theorem free_pop : ∀ (n u : Nat), free n u + pop n u = n
  | 0, _ => rfl
  | n + 1, u => by
    have := free_pop n u
    unfold free pop
    split <;> omega

theorem minor_det (M : List (List Int)) (n : Nat) (hM : M.length = n) : ∀ (k u : Nat), k ≤ n → free n u = k → minorZ M n k u = detR k ((M.drop (n - k)).map fun r => selU u r n)
  | 0, _, _, _ => rfl
  | k + 1, u, hk, hf => by
    have hd : M.drop (n - (k + 1)) = M[n - (k + 1)]'(by omega) :: M.drop (n - k) := by
      rw [List.drop_eq_getElem_cons (by omega), show n - (k + 1) + 1 = n - k by omega]
    show (colS ((M[n - (k + 1)]?).getD []) (fun c => minorZ M n k (u ||| 2 ^ c)) u n).1 = _
    rw [List.getElem?_eq_getElem (by omega), hd]
    show (colS (M[n - (k + 1)]'(by omega)) (fun c => minorZ M n k (u ||| 2 ^ c)) u n).1 = altS (selU u (M[n - (k + 1)]'(by omega)) n) (fun c => detR k (((M.drop (n - k)).map fun r => selU u r n).map (cutAt c))) (k + 1)
    rw [colS_alt (g := fun c => detR k (((M.drop (n - k)).map fun r => selU u r n).map (cutAt c))) n ?_, hf]
    intro c hc hu
    show detR k (((M.drop (n - k)).map fun r => selU u r n).map (cutAt (free c u))) = minorZ M n k (u ||| 2 ^ c)
    have hp : pop n (u ||| 2 ^ c) = pop n u + 1 := pop_or n u c hc hu
    have f1 := free_pop n u
    have f2 := free_pop n (u ||| 2 ^ c)
    rw [minor_det M n hM k (u ||| 2 ^ c) (by omega) (by omega)]
    congr 1
    rw [List.map_map]
    refine List.map_congr_left fun r _ => ?_
    exact ((selU_or hu r n).2 hc).symm

theorem selU_zero (xs : List Int) : ∀ n, n ≤ xs.length → selU 0 xs n = xs.take n
  | 0, _ => by simp [selU]
  | n + 1, h => by
    show selU 0 xs n ++ (if (0 : Nat).testBit n then [] else [ent xs n]) = _
    rw [selU_zero xs n (by omega), Nat.zero_testBit, List.take_succ_eq_append_getElem (by omega), ent_at (by omega)]
    rfl

theorem detZ_detR (M : List (List Int)) (hsq : ∀ row ∈ M, row.length = M.length) : detZ M = detR M.length M := by
  unfold detZ
  have hp := pop_zero M.length
  have hf := free_pop M.length 0
  rw [minor_det M M.length rfl M.length 0 (Nat.le_refl _) (by omega), Nat.sub_self, List.drop_zero]
  congr 1
  conv => rhs; rw [← List.map_id M]
  refine List.map_congr_left fun r hr => ?_
  have := hsq r hr
  rw [selU_zero r _ (by omega), List.take_of_length_le (by omega)]
  rfl

end Go.Proofs.YtapfkinpdinbgaaDoor
