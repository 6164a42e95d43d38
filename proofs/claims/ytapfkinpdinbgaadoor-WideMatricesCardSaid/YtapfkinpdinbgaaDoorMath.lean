/-
  Plain arithmetic of digits: what lists of digits say as numbers; sums, differences, products, quotients place by place. It imports nothing of the program.
-/
namespace Go.Proofs.YtapfkinpdinbgaaDoor
/-- The number that digits say, the lowest first. -/
def dv (b : Nat) : List Nat → Nat
  | [] => 0
  | x :: xs => x + b * dv b xs

/-- All are digits. -/
def Dg (b : Nat) (xs : List Nat) : Prop := ∀ x, x ∈ xs → x < b

/-- The highest is not 0. -/
def Tp (xs : List Nat) : Prop := xs.getLast? ≠ some 0

/-- Digits in their one form. -/
def Cn (b : Nat) (xs : List Nat) : Prop := Dg b xs ∧ Tp xs

theorem dv_nil (b : Nat) : dv b [] = 0 := rfl
theorem dv_cons (b x : Nat) (xs : List Nat) : dv b (x :: xs) = x + b * dv b xs := rfl

theorem dv_append (b : Nat) (xs ys : List Nat) : dv b (xs ++ ys) = dv b xs + b ^ xs.length * dv b ys := by
  induction xs with
  | nil => simp [dv]
  | cons x xs ih =>
    simp only [List.cons_append, dv, ih, List.length_cons, Nat.pow_succ]
    grind

theorem dv_snoc (b : Nat) (xs : List Nat) (y : Nat) : dv b (xs ++ [y]) = dv b xs + b ^ xs.length * y := by
  rw [dv_append]; simp [dv]

theorem Dg.nil (b : Nat) : Dg b [] := by intro x hx; cases hx
theorem Dg.cons {b x : Nat} {xs : List Nat} (h : x < b) (hs : Dg b xs) : Dg b (x :: xs) := by
  intro y hy; cases hy with
  | head => exact h
  | tail _ hy => exact hs y hy
theorem Dg.append {b : Nat} {xs ys : List Nat} (h : Dg b xs) (hs : Dg b ys) : Dg b (xs ++ ys) := by
  intro y hy; rcases List.mem_append.1 hy with h1 | h1
  · exact h y h1
  · exact hs y h1
theorem Dg.left {b : Nat} {xs ys : List Nat} (h : Dg b (xs ++ ys)) : Dg b xs := fun x hx => h x (List.mem_append_left _ hx)
theorem Dg.right {b : Nat} {xs ys : List Nat} (h : Dg b (xs ++ ys)) : Dg b ys := fun x hx => h x (List.mem_append_right _ hx)
theorem Dg.tail {b x : Nat} {xs : List Nat} (h : Dg b (x :: xs)) : Dg b xs := fun y hy => h y (List.mem_cons_of_mem _ hy)
theorem Dg.head {b x : Nat} {xs : List Nat} (h : Dg b (x :: xs)) : x < b := h x List.mem_cons_self
theorem Dg.take {b : Nat} {xs : List Nat} (h : Dg b xs) (n : Nat) : Dg b (xs.take n) := fun x hx => h x (List.mem_of_mem_take hx)
theorem Dg.drop {b : Nat} {xs : List Nat} (h : Dg b xs) (n : Nat) : Dg b (xs.drop n) := fun x hx => h x (List.mem_of_mem_drop hx)
theorem Dg.get {b : Nat} {xs : List Nat} (h : Dg b xs) (hb : 0 < b) (i : Nat) : xs[i]?.getD 0 < b := by
  cases hx : xs[i]? with
  | none => simpa using hb
  | some y => exact h y (List.mem_of_getElem? hx)
theorem Dg.set {b : Nat} {xs : List Nat} (h : Dg b xs) (i : Nat) {y : Nat} (hy : y < b) : Dg b (xs.set i y) := by
  intro x hx
  rcases List.mem_or_eq_of_mem_set hx with h1 | h1
  · exact h x h1
  · rw [h1]; exact hy
theorem Dg.replicate {b : Nat} (hb : 0 < b) (n : Nat) : Dg b (List.replicate n 0) := by
  intro x hx; rw [(List.mem_replicate.1 hx).2]; exact hb

theorem dv_lt {b : Nat} {xs : List Nat} (h : Dg b xs) : dv b xs < b ^ xs.length := by
  induction xs with
  | nil => simp [dv]
  | cons x xs ih =>
    have h1 := ih h.tail
    have h2 := h.head
    simp only [dv, List.length_cons, Nat.pow_succ]
    have h3 : dv b xs + 1 ≤ b ^ xs.length := h1
    have h4 := Nat.mul_le_mul_left b h3
    rw [Nat.mul_comm (b ^ xs.length) b]
    rw [Nat.mul_add] at h4
    omega

theorem dv_replicate (b n : Nat) : dv b (List.replicate n 0) = 0 := by
  induction n with
  | zero => rfl
  | succ n ih => simp [List.replicate_succ, dv, ih]

theorem dv_zeros (b : Nat) (xs : List Nat) (n : Nat) : dv b (xs ++ List.replicate n 0) = dv b xs := by
  rw [dv_append, dv_replicate]; simp

/-- Digits below a place, and those from it on. -/
theorem dv_take_drop (b : Nat) (xs : List Nat) (n : Nat) (hn : n ≤ xs.length) : dv b xs = dv b (xs.take n) + b ^ n * dv b (xs.drop n) := by
  conv => lhs; rw [← List.take_append_drop n xs]
  rw [dv_append, List.length_take, Nat.min_eq_left hn]

theorem take_snoc (xs : List Nat) (k : Nat) (h : k < xs.length) : xs.take (k + 1) = xs.take k ++ [xs[k]?.getD 0] := by
  rw [List.take_succ_eq_append_getElem h]; simp [h]

theorem dv_take_succ (b : Nat) (xs : List Nat) (k : Nat) : dv b (xs.take (k + 1)) = dv b (xs.take k) + b ^ k * xs[k]?.getD 0 := by
  by_cases h : k < xs.length
  · rw [take_snoc xs k h, dv_snoc, List.length_take, Nat.min_eq_left (Nat.le_of_lt h)]
  · have h1 : xs.length ≤ k := by omega
    rw [List.take_of_length_le h1, List.take_of_length_le (by omega)]
    simp [h1]

/-- Zeros at the top cut off. -/
def trimLen (xs : List Nat) : Nat → Nat
  | 0 => 0
  | n + 1 => if xs[n]?.getD 0 = 0 then trimLen xs n else n + 1

def trimZ (xs : List Nat) : List Nat := xs.take (trimLen xs xs.length)

theorem trimLen_le (xs : List Nat) (n : Nat) : trimLen xs n ≤ n := by
  induction n with
  | zero => exact Nat.le_refl _
  | succ n ih => unfold trimLen; split <;> omega

theorem dv_trimLen (b : Nat) (xs : List Nat) (n : Nat) : dv b (xs.take (trimLen xs n)) = dv b (xs.take n) := by
  induction n with
  | zero => rfl
  | succ n ih =>
    unfold trimLen
    split
    · rename_i h; rw [ih, dv_take_succ, h]; simp
    · rfl

theorem dv_trimZ (b : Nat) (xs : List Nat) : dv b (trimZ xs) = dv b xs := by
  unfold trimZ; rw [dv_trimLen]; simp

theorem trimLen_top (xs : List Nat) (n : Nat) (hn : n ≤ xs.length) : Tp (xs.take (trimLen xs n)) := by
  induction n with
  | zero => simp [trimLen, Tp]
  | succ n ih =>
    unfold trimLen
    split
    · exact ih (by omega)
    · rename_i h
      unfold Tp
      rw [take_snoc xs n (by omega)]
      simp only [List.getLast?_append, List.getLast?_singleton, Option.some_or]
      intro h1; exact h (Option.some.inj h1)

theorem trimZ_top (xs : List Nat) : Tp (trimZ xs) := trimLen_top xs _ (Nat.le_refl _)

theorem trimZ_cn {b : Nat} {xs : List Nat} (h : Dg b xs) : Cn b (trimZ xs) := ⟨h.take _, trimZ_top xs⟩

theorem trimZ_length (xs : List Nat) : (trimZ xs).length = trimLen xs xs.length := by
  unfold trimZ; rw [List.length_take]; exact Nat.min_eq_left (trimLen_le _ _)

/-- A number whose highest digit is not 0 is long. -/
theorem Cn.lower {b : Nat} {xs : List Nat} (h : Cn b xs) (hn : xs ≠ []) : b ^ (xs.length - 1) ≤ dv b xs := by
  obtain ⟨ys, y, rfl⟩ : ∃ ys y, xs = ys ++ [y] := ⟨xs.dropLast, xs.getLast hn, (List.dropLast_concat_getLast hn).symm⟩
  have hy : y ≠ 0 := by
    intro e; apply h.2; simp [e]
  rw [dv_snoc]
  simp only [List.length_append, List.length_singleton, Nat.add_sub_cancel]
  have : b ^ ys.length * 1 ≤ b ^ ys.length * y := Nat.mul_le_mul_left _ (by omega)
  omega

theorem Cn.nil (b : Nat) : Cn b [] := ⟨Dg.nil b, by simp [Tp]⟩

theorem Cn.pos {b : Nat} (hb : 0 < b) {xs : List Nat} (h : Cn b xs) (hn : xs ≠ []) : 0 < dv b xs :=
  Nat.lt_of_lt_of_le (Nat.pow_pos hb) (h.lower hn)

theorem Cn.zero {b : Nat} (hb : 0 < b) {xs : List Nat} (h : Cn b xs) : dv b xs = 0 ↔ xs = [] := by
  constructor
  · intro h1
    by_cases hn : xs = []
    · exact hn
    · have := h.pos hb hn; omega
  · intro h1; rw [h1]; rfl

/-- The longer number is the greater one. -/
theorem Cn.lt_of_length {b : Nat} (hb : 0 < b) {xs ys : List Nat} (hx : Dg b xs) (hy : Cn b ys) (h : xs.length < ys.length) : dv b xs < dv b ys := by
  have h1 := dv_lt hx
  have h2 := hy.lower (by intro e; rw [e] at h; simp at h)
  have h3 : b ^ xs.length ≤ b ^ (ys.length - 1) := Nat.pow_le_pow_right hb (by omega)
  omega

theorem Cn.length_le {b : Nat} (hb : 1 < b) {xs : List Nat} (h : Cn b xs) {m : Nat} (hm : dv b xs < b ^ m) : xs.length ≤ m := by
  by_cases hn : xs = []
  · subst hn; simp
  · have h1 := h.lower hn
    rcases Nat.lt_or_ge m xs.length with h2 | h2
    · have := Nat.pow_le_pow_right (n := b) (by omega) (show m ≤ xs.length - 1 by omega)
      omega
    · exact h2

theorem Dg.inj {b : Nat} (hb : 0 < b) : ∀ {xs ys : List Nat}, Dg b xs → Dg b ys → xs.length = ys.length → dv b xs = dv b ys → xs = ys
  | [], [], _, _, _, _ => rfl
  | [], _ :: _, _, _, h, _ => by simp at h
  | _ :: _, [], _, _, h, _ => by simp at h
  | x :: xs, y :: ys, hx, hy, h, e => by
    simp only [dv] at e
    have h1 := hx.head
    have h2 := hy.head
    have e1 : x = y := by
      have := congrArg (· % b) e
      simpa [Nat.add_mul_mod_self_left, Nat.mod_eq_of_lt h1, Nat.mod_eq_of_lt h2] using this
    subst e1
    have e2 : dv b xs = dv b ys := Nat.eq_of_mul_eq_mul_left hb (by omega)
    rw [Dg.inj hb hx.tail hy.tail (by simpa using h) e2]

theorem Cn.inj {b : Nat} (hb : 0 < b) {xs ys : List Nat} (hx : Cn b xs) (hy : Cn b ys) (e : dv b xs = dv b ys) : xs = ys := by
  rcases Nat.lt_trichotomy xs.length ys.length with h | h | h
  · have := Cn.lt_of_length hb hx.1 hy h; omega
  · exact Dg.inj hb hx.1 hy.1 h e
  · have := Cn.lt_of_length hb hy.1 hx h; omega

/-- Two numbers of one length, alike from a place on: the digit below it decides. -/
theorem dv_lt_at {b : Nat} {xs ys : List Nat} (hx : Dg b xs) (hl : xs.length = ys.length) (k : Nat) (hk : k < xs.length)
    (he : xs.drop (k + 1) = ys.drop (k + 1)) (h : xs[k]?.getD 0 < ys[k]?.getD 0) : dv b xs < dv b ys := by
  rw [dv_take_drop b xs (k + 1) (by omega), dv_take_drop b ys (k + 1) (by omega), he, dv_take_succ, dv_take_succ]
  have h1 := dv_lt (hx.take k)
  rw [List.length_take, Nat.min_eq_left (by omega)] at h1
  have h2 : b ^ k * (xs[k]?.getD 0 + 1) ≤ b ^ k * ys[k]?.getD 0 := Nat.mul_le_mul_left _ h
  rw [Nat.mul_add] at h2
  omega


theorem dv_set (b : Nat) (xs : List Nat) (k v : Nat) (hk : k < xs.length) : dv b (xs.set k v) + b ^ k * xs[k]?.getD 0 = dv b xs + b ^ k * v := by
  induction xs generalizing k with
  | nil => simp at hk
  | cons x xs ih =>
    cases k with
    | zero => simp [dv]; omega
    | succ k =>
      have h := ih k (by simpa using hk)
      simp only [List.set_cons_succ, dv, List.getElem?_cons_succ, Nat.pow_succ]
      grind

/-- One place added: what is written, what is carried. -/
theorem add_step {b k zs xs ys c x y s : Nat} (h : zs + b ^ k * c = xs + ys) (hs : s = c + x + y) :
    zs + b ^ k * (s % b) + b ^ (k + 1) * (s / b) = (xs + b ^ k * x) + (ys + b ^ k * y) := by
  have e := Nat.mod_add_div s b
  rw [Nat.pow_succ]
  have : b ^ k * (s % b) + b ^ k * b * (s / b) = b ^ k * s := by
    rw [Nat.mul_assoc, ← Nat.mul_add, e]
  rw [hs] at this ⊢
  grind

/-- One place taken away. 'br': 1 if there was not enough. -/
theorem sub_step {b k zs xs ys c x y d br : Nat} (h : zs + ys = xs + b ^ k * c) (hd : d + y + c = x + b * br) :
    (zs + b ^ k * d) + (ys + b ^ k * y) = (xs + b ^ k * x) + b ^ (k + 1) * br := by
  rw [Nat.pow_succ]
  have h1 : b ^ k * (d + y + c) = b ^ k * (x + b * br) := by rw [hd]
  simp only [Nat.mul_add] at h1
  rw [← Nat.mul_assoc] at h1
  omega

theorem mul_step {b k old x w c z s : Nat} (hs : s = c + x * w + z) : b ^ k * (s % b) + b ^ (k + 1) * (s / b) + b ^ k * old = b ^ k * (c + x * w + z) + b ^ k * old := by
  have e := Nat.mod_add_div s b
  rw [Nat.pow_succ, Nat.mul_assoc, ← Nat.mul_add, e, hs]

/-- One word of a product fits. -/
theorem mul_fits {b c x w z : Nat} (hb : 0 < b) (hc : c < b) (hx : x < b) (hw : w < b) (hz : z < b) : c + (x * w + z) < b * b := by
  have h1 : x * w ≤ (b - 1) * (b - 1) := Nat.mul_le_mul (by omega) (by omega)
  obtain ⟨a, rfl⟩ : ∃ a, b = a + 1 := ⟨b - 1, by omega⟩
  simp only [Nat.add_sub_cancel] at h1
  have : (a + 1) * (a + 1) = a * a + 2 * a + 1 := by grind
  omega

/-- One word of a quotient by one word. -/
theorem div_step {b y rest w up q : Nat} (h : up = q * y + rest) :
    w + b * up = ((rest * b + w) / y + b * q) * y + (rest * b + w) % y := by
  have e := Nat.div_add_mod (rest * b + w) y
  rw [h]
  grind

theorem div_fits {b y rest w : Nat} (hy : rest < y) (hw : w < b) : (rest * b + w) / y < b := by
  rw [Nat.div_lt_iff_lt_mul (by omega)]
  have : (rest + 1) * b ≤ y * b := Nat.mul_le_mul_right b hy
  rw [Nat.add_mul] at this
  rw [Nat.mul_comm b y]
  omega

theorem trimLen_zero (xs : List Nat) : trimLen xs 0 = 0 := rfl
theorem trimLen_cut {xs : List Nat} {k : Nat} (h : xs[k]?.getD 0 = 0) : trimLen xs (k + 1) = trimLen xs k := by rw [trimLen]; exact if_pos h
theorem trimLen_keep {xs : List Nat} {k : Nat} (h : ¬ xs[k]?.getD 0 = 0) : trimLen xs (k + 1) = k + 1 := by rw [trimLen]; exact if_neg h

/-- Nothing is owed in the end where there was enough. -/
theorem sub_end {b n zs xs ys c : Nat} (h : zs + ys = xs + b ^ n * c) (hz : zs < b ^ n) (hc : c ≤ 1) (hle : ys ≤ xs) : zs + ys = xs := by
  have : c = 0 ∨ c = 1 := by omega
  rcases this with rfl | rfl
  · simpa using h
  · rw [Nat.mul_one] at h; omega

/-- One place of a row of a product: what was there, what is written, what is carried. -/
theorem mul_place {b : Nat} {zs : List Nat} {at_ s x w c : Nat} (hk : at_ < zs.length) (hs : s = c + (x * w + zs[at_]?.getD 0)) :
    dv b (zs.set at_ (s % b)) + b ^ (at_ + 1) * (s / b) = dv b zs + b ^ at_ * c + b ^ at_ * (x * w) := by
  have h := dv_set b zs at_ (s % b) hk
  have e := Nat.mod_add_div s b
  have e2 : b ^ at_ * (s % b) + b ^ (at_ + 1) * (s / b) = b ^ at_ * s := by
    rw [Nat.pow_succ, Nat.mul_assoc, ← Nat.mul_add, e]
  have e3 : b ^ at_ * s = b ^ at_ * c + (b ^ at_ * (x * w) + b ^ at_ * zs[at_]?.getD 0) := by rw [hs, Nat.mul_add, Nat.mul_add]
  omega

theorem set_get_other (zs : List Nat) (i j x : Nat) (h : i ≠ j) : (zs.set i x)[j]?.getD 0 = zs[j]?.getD 0 := by
  rw [List.getElem?_set_ne h]

theorem prod_bound {a b : Nat} (ha : a < 1000000000) (hb : b < 1000000000) : 0 ≤ (a : Int) * (b : Int) ∧ (a : Int) * (b : Int) ≤ 999999998000000001 := by
  have h : a * b ≤ 999999999 * 999999999 := Nat.mul_le_mul (by omega) (by omega)
  have h2 : ((a * b : Nat) : Int) = (a : Int) * (b : Int) := Int.natCast_mul a b
  omega

theorem drop_set_at' (qs : List Nat) (i v : Nat) (h : i < qs.length) : (qs.set i v).drop i = v :: qs.drop (i + 1) := by
  rw [List.drop_eq_getElem_cons (by simpa using h)]
  simp [List.drop_set]

/-- The words' base. -/
abbrev BW : Nat := 1000000000

/-- The places below k are written, those from k on are 0. -/
theorem set_filled (zs : List Nat) (m x : Nat) : (zs ++ List.replicate (m + 1) 0).set zs.length x = (zs ++ [x]) ++ List.replicate m 0 := by
  simp [List.replicate_succ]

end Go.Proofs.YtapfkinpdinbgaaDoor
