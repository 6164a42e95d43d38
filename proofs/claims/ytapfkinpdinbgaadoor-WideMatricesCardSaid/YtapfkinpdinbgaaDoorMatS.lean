/-
  WideMatrices: matrices of texts, their products, exchanged and added rows.
-/
import Derived.Test.YtapfkinpdinbgaaDoorDetLink
import Derived.Test.YtapfkinpdinbgaaDoorSum
import Derived.Test.YtapfkinpdinbgaaDoorDetsA
namespace Go.Proofs.YtapfkinpdinbgaaDoor

def at2 (M : List (List Int)) (i j : Nat) : Int := ent ((M[i]?).getD []) j
def mulM (n : Nat) (X Y : List (List Int)) : List (List Int) := (List.range n).map fun r => (List.range n).map fun c => sumZ ((List.range n).map fun t => at2 X r t * at2 Y t c)
def swapM (n : Nat) (X : List (List Int)) (i k : Nat) : List (List Int) := (List.range n).map fun r => if r = i then (X[k]?).getD [] else if r = k then (X[i]?).getD [] else (X[r]?).getD []
def addM (n : Nat) (X : List (List Int)) (i k : Nat) : List (List Int) := (List.range n).map fun r => if r = i then (List.range n).map fun c => at2 X i c + at2 X k c * (-3) else (X[r]?).getD []

def Sq (n : Nat) (X : List (List Int)) : Prop := X.length = n ∧ ∀ row ∈ X, row.length = n

theorem det2 (a00 a01 a10 a11 : Int) : detR 2 [[a00, a01], [a10, a11]] = (a00 * a11 - a01 * a10) := by
  simp [detR, altS, cutAt, ent]
  try grind

set_option maxHeartbeats 4000000 in
set_option maxRecDepth 100000 in
theorem prod2 (x00 x01 x10 x11 y00 y01 y10 y11 : Int) : ((x00 * y00 + x01 * y10) * (x10 * y01 + x11 * y11) - (x00 * y01 + x01 * y11) * (x10 * y00 + x11 * y10)) = (x00 * x11 - x01 * x10) * (y00 * y11 - y01 * y10) := by grind

theorem sq_form2 {X : List (List Int)} (h : Sq 2 X) : ∃ x00 x01 x10 x11 : Int, X = [[x00, x01], [x10, x11]] := by
  obtain ⟨h1, h2⟩ := h
  match X, h1 with
  | [r0, r1], _ =>
    have e0 := h2 r0 (by simp)
    have e1 := h2 r1 (by simp)
    match r0, e0, r1, e1 with
    | [x00, x01], _, [x10, x11], _ => exact ⟨x00, x01, x10, x11, rfl⟩

theorem mul_det2 {X Y : List (List Int)} (hX : Sq 2 X) (hY : Sq 2 Y) : detR 2 (mulM 2 X Y) = detR 2 X * detR 2 Y := by
  obtain ⟨x00, x01, x10, x11, rfl⟩ := sq_form2 hX
  obtain ⟨y00, y01, y10, y11, rfl⟩ := sq_form2 hY
  have e : mulM 2 [[x00, x01], [x10, x11]] [[y00, y01], [y10, y11]] = [[(0 + x00 * y00 + x01 * y10), (0 + x00 * y01 + x01 * y11)], [(0 + x10 * y00 + x11 * y10), (0 + x10 * y01 + x11 * y11)]] := rfl
  rw [e, det2, det2, det2]
  simp only [Int.zero_add]
  exact prod2 x00 x01 x10 x11 y00 y01 y10 y11

theorem swap_det2 {X : List (List Int)} (hX : Sq 2 X) {i k : Nat} (hi : i < 2) (hk : k < 2) (hne : i ≠ k) : detR 2 (swapM 2 X i k) = -detR 2 X := by
  obtain ⟨x00, x01, x10, x11, rfl⟩ := sq_form2 hX
  rw [det2]
  match i, k, hi, hk, hne with
  | 0, 0, _, _, hne => exact absurd rfl hne
  | 0, 1, _, _, _ =>
    rw [show swapM 2 [[x00, x01], [x10, x11]] 0 1 = [[x10, x11], [x00, x01]] from rfl, det2]; grind
  | 1, 0, _, _, _ =>
    rw [show swapM 2 [[x00, x01], [x10, x11]] 1 0 = [[x10, x11], [x00, x01]] from rfl, det2]; grind
  | 1, 1, _, _, hne => exact absurd rfl hne
  | i + 2, _, hi, _, _ => omega
  | _, k + 2, _, hk, _ => omega

theorem add_det2 {X : List (List Int)} (hX : Sq 2 X) {i k : Nat} (hi : i < 2) (hk : k < 2) (hne : i ≠ k) : detR 2 (addM 2 X i k) = detR 2 X := by
  obtain ⟨x00, x01, x10, x11, rfl⟩ := sq_form2 hX
  rw [det2]
  match i, k, hi, hk, hne with
  | 0, 0, _, _, hne => exact absurd rfl hne
  | 0, 1, _, _, _ =>
    rw [show addM 2 [[x00, x01], [x10, x11]] 0 1 = [[x00 + x10 * (-3), x01 + x11 * (-3)], [x10, x11]] from rfl, det2]; grind
  | 1, 0, _, _, _ =>
    rw [show addM 2 [[x00, x01], [x10, x11]] 1 0 = [[x00, x01], [x10 + x00 * (-3), x11 + x01 * (-3)]] from rfl, det2]; grind
  | 1, 1, _, _, hne => exact absurd rfl hne
  | i + 2, _, hi, _, _ => omega
  | _, k + 2, _, hk, _ => omega

theorem det3 (a00 a01 a02 a10 a11 a12 a20 a21 a22 : Int) : detR 3 [[a00, a01, a02], [a10, a11, a12], [a20, a21, a22]] = (a00 * (a11 * a22 - a12 * a21) - a01 * (a10 * a22 - a12 * a20) + a02 * (a10 * a21 - a11 * a20)) := by
  simp [detR, altS, cutAt, ent]
  try grind

set_option maxHeartbeats 4000000 in
set_option maxRecDepth 100000 in
theorem prod3 (x00 x01 x02 x10 x11 x12 x20 x21 x22 y00 y01 y02 y10 y11 y12 y20 y21 y22 : Int) : ((x00 * y00 + x01 * y10 + x02 * y20) * ((x10 * y01 + x11 * y11 + x12 * y21) * (x20 * y02 + x21 * y12 + x22 * y22) - (x10 * y02 + x11 * y12 + x12 * y22) * (x20 * y01 + x21 * y11 + x22 * y21)) - (x00 * y01 + x01 * y11 + x02 * y21) * ((x10 * y00 + x11 * y10 + x12 * y20) * (x20 * y02 + x21 * y12 + x22 * y22) - (x10 * y02 + x11 * y12 + x12 * y22) * (x20 * y00 + x21 * y10 + x22 * y20)) + (x00 * y02 + x01 * y12 + x02 * y22) * ((x10 * y00 + x11 * y10 + x12 * y20) * (x20 * y01 + x21 * y11 + x22 * y21) - (x10 * y01 + x11 * y11 + x12 * y21) * (x20 * y00 + x21 * y10 + x22 * y20))) = (x00 * (x11 * x22 - x12 * x21) - x01 * (x10 * x22 - x12 * x20) + x02 * (x10 * x21 - x11 * x20)) * (y00 * (y11 * y22 - y12 * y21) - y01 * (y10 * y22 - y12 * y20) + y02 * (y10 * y21 - y11 * y20)) := by grind

theorem sq_form3 {X : List (List Int)} (h : Sq 3 X) : ∃ x00 x01 x02 x10 x11 x12 x20 x21 x22 : Int, X = [[x00, x01, x02], [x10, x11, x12], [x20, x21, x22]] := by
  obtain ⟨h1, h2⟩ := h
  match X, h1 with
  | [r0, r1, r2], _ =>
    have e0 := h2 r0 (by simp)
    have e1 := h2 r1 (by simp)
    have e2 := h2 r2 (by simp)
    match r0, e0, r1, e1, r2, e2 with
    | [x00, x01, x02], _, [x10, x11, x12], _, [x20, x21, x22], _ => exact ⟨x00, x01, x02, x10, x11, x12, x20, x21, x22, rfl⟩

theorem mul_det3 {X Y : List (List Int)} (hX : Sq 3 X) (hY : Sq 3 Y) : detR 3 (mulM 3 X Y) = detR 3 X * detR 3 Y := by
  obtain ⟨x00, x01, x02, x10, x11, x12, x20, x21, x22, rfl⟩ := sq_form3 hX
  obtain ⟨y00, y01, y02, y10, y11, y12, y20, y21, y22, rfl⟩ := sq_form3 hY
  have e : mulM 3 [[x00, x01, x02], [x10, x11, x12], [x20, x21, x22]] [[y00, y01, y02], [y10, y11, y12], [y20, y21, y22]] = [[(0 + x00 * y00 + x01 * y10 + x02 * y20), (0 + x00 * y01 + x01 * y11 + x02 * y21), (0 + x00 * y02 + x01 * y12 + x02 * y22)], [(0 + x10 * y00 + x11 * y10 + x12 * y20), (0 + x10 * y01 + x11 * y11 + x12 * y21), (0 + x10 * y02 + x11 * y12 + x12 * y22)], [(0 + x20 * y00 + x21 * y10 + x22 * y20), (0 + x20 * y01 + x21 * y11 + x22 * y21), (0 + x20 * y02 + x21 * y12 + x22 * y22)]] := rfl
  rw [e, det3, det3, det3]
  simp only [Int.zero_add]
  exact prod3 x00 x01 x02 x10 x11 x12 x20 x21 x22 y00 y01 y02 y10 y11 y12 y20 y21 y22

theorem swap_det3 {X : List (List Int)} (hX : Sq 3 X) {i k : Nat} (hi : i < 3) (hk : k < 3) (hne : i ≠ k) : detR 3 (swapM 3 X i k) = -detR 3 X := by
  obtain ⟨x00, x01, x02, x10, x11, x12, x20, x21, x22, rfl⟩ := sq_form3 hX
  rw [det3]
  match i, k, hi, hk, hne with
  | 0, 0, _, _, hne => exact absurd rfl hne
  | 0, 1, _, _, _ =>
    rw [show swapM 3 [[x00, x01, x02], [x10, x11, x12], [x20, x21, x22]] 0 1 = [[x10, x11, x12], [x00, x01, x02], [x20, x21, x22]] from rfl, det3]; grind
  | 0, 2, _, _, _ =>
    rw [show swapM 3 [[x00, x01, x02], [x10, x11, x12], [x20, x21, x22]] 0 2 = [[x20, x21, x22], [x10, x11, x12], [x00, x01, x02]] from rfl, det3]; grind
  | 1, 0, _, _, _ =>
    rw [show swapM 3 [[x00, x01, x02], [x10, x11, x12], [x20, x21, x22]] 1 0 = [[x10, x11, x12], [x00, x01, x02], [x20, x21, x22]] from rfl, det3]; grind
  | 1, 1, _, _, hne => exact absurd rfl hne
  | 1, 2, _, _, _ =>
    rw [show swapM 3 [[x00, x01, x02], [x10, x11, x12], [x20, x21, x22]] 1 2 = [[x00, x01, x02], [x20, x21, x22], [x10, x11, x12]] from rfl, det3]; grind
  | 2, 0, _, _, _ =>
    rw [show swapM 3 [[x00, x01, x02], [x10, x11, x12], [x20, x21, x22]] 2 0 = [[x20, x21, x22], [x10, x11, x12], [x00, x01, x02]] from rfl, det3]; grind
  | 2, 1, _, _, _ =>
    rw [show swapM 3 [[x00, x01, x02], [x10, x11, x12], [x20, x21, x22]] 2 1 = [[x00, x01, x02], [x20, x21, x22], [x10, x11, x12]] from rfl, det3]; grind
  | 2, 2, _, _, hne => exact absurd rfl hne
  | i + 3, _, hi, _, _ => omega
  | _, k + 3, _, hk, _ => omega

theorem add_det3 {X : List (List Int)} (hX : Sq 3 X) {i k : Nat} (hi : i < 3) (hk : k < 3) (hne : i ≠ k) : detR 3 (addM 3 X i k) = detR 3 X := by
  obtain ⟨x00, x01, x02, x10, x11, x12, x20, x21, x22, rfl⟩ := sq_form3 hX
  rw [det3]
  match i, k, hi, hk, hne with
  | 0, 0, _, _, hne => exact absurd rfl hne
  | 0, 1, _, _, _ =>
    rw [show addM 3 [[x00, x01, x02], [x10, x11, x12], [x20, x21, x22]] 0 1 = [[x00 + x10 * (-3), x01 + x11 * (-3), x02 + x12 * (-3)], [x10, x11, x12], [x20, x21, x22]] from rfl, det3]; grind
  | 0, 2, _, _, _ =>
    rw [show addM 3 [[x00, x01, x02], [x10, x11, x12], [x20, x21, x22]] 0 2 = [[x00 + x20 * (-3), x01 + x21 * (-3), x02 + x22 * (-3)], [x10, x11, x12], [x20, x21, x22]] from rfl, det3]; grind
  | 1, 0, _, _, _ =>
    rw [show addM 3 [[x00, x01, x02], [x10, x11, x12], [x20, x21, x22]] 1 0 = [[x00, x01, x02], [x10 + x00 * (-3), x11 + x01 * (-3), x12 + x02 * (-3)], [x20, x21, x22]] from rfl, det3]; grind
  | 1, 1, _, _, hne => exact absurd rfl hne
  | 1, 2, _, _, _ =>
    rw [show addM 3 [[x00, x01, x02], [x10, x11, x12], [x20, x21, x22]] 1 2 = [[x00, x01, x02], [x10 + x20 * (-3), x11 + x21 * (-3), x12 + x22 * (-3)], [x20, x21, x22]] from rfl, det3]; grind
  | 2, 0, _, _, _ =>
    rw [show addM 3 [[x00, x01, x02], [x10, x11, x12], [x20, x21, x22]] 2 0 = [[x00, x01, x02], [x10, x11, x12], [x20 + x00 * (-3), x21 + x01 * (-3), x22 + x02 * (-3)]] from rfl, det3]; grind
  | 2, 1, _, _, _ =>
    rw [show addM 3 [[x00, x01, x02], [x10, x11, x12], [x20, x21, x22]] 2 1 = [[x00, x01, x02], [x10, x11, x12], [x20 + x10 * (-3), x21 + x11 * (-3), x22 + x12 * (-3)]] from rfl, det3]; grind
  | 2, 2, _, _, hne => exact absurd rfl hne
  | i + 3, _, hi, _, _ => omega
  | _, k + 3, _, hk, _ => omega

theorem det4 (a00 a01 a02 a03 a10 a11 a12 a13 a20 a21 a22 a23 a30 a31 a32 a33 : Int) : detR 4 [[a00, a01, a02, a03], [a10, a11, a12, a13], [a20, a21, a22, a23], [a30, a31, a32, a33]] = (a00 * (a11 * (a22 * a33 - a23 * a32) - a12 * (a21 * a33 - a23 * a31) + a13 * (a21 * a32 - a22 * a31)) - a01 * (a10 * (a22 * a33 - a23 * a32) - a12 * (a20 * a33 - a23 * a30) + a13 * (a20 * a32 - a22 * a30)) + a02 * (a10 * (a21 * a33 - a23 * a31) - a11 * (a20 * a33 - a23 * a30) + a13 * (a20 * a31 - a21 * a30)) - a03 * (a10 * (a21 * a32 - a22 * a31) - a11 * (a20 * a32 - a22 * a30) + a12 * (a20 * a31 - a21 * a30))) := by
  simp [detR, altS, cutAt, ent]
  try grind

set_option maxHeartbeats 4000000 in
set_option maxRecDepth 100000 in
theorem prod4 (x00 x01 x02 x03 x10 x11 x12 x13 x20 x21 x22 x23 x30 x31 x32 x33 y00 y01 y02 y03 y10 y11 y12 y13 y20 y21 y22 y23 y30 y31 y32 y33 : Int) : ((x00 * y00 + x01 * y10 + x02 * y20 + x03 * y30) * ((x10 * y01 + x11 * y11 + x12 * y21 + x13 * y31) * ((x20 * y02 + x21 * y12 + x22 * y22 + x23 * y32) * (x30 * y03 + x31 * y13 + x32 * y23 + x33 * y33) - (x20 * y03 + x21 * y13 + x22 * y23 + x23 * y33) * (x30 * y02 + x31 * y12 + x32 * y22 + x33 * y32)) - (x10 * y02 + x11 * y12 + x12 * y22 + x13 * y32) * ((x20 * y01 + x21 * y11 + x22 * y21 + x23 * y31) * (x30 * y03 + x31 * y13 + x32 * y23 + x33 * y33) - (x20 * y03 + x21 * y13 + x22 * y23 + x23 * y33) * (x30 * y01 + x31 * y11 + x32 * y21 + x33 * y31)) + (x10 * y03 + x11 * y13 + x12 * y23 + x13 * y33) * ((x20 * y01 + x21 * y11 + x22 * y21 + x23 * y31) * (x30 * y02 + x31 * y12 + x32 * y22 + x33 * y32) - (x20 * y02 + x21 * y12 + x22 * y22 + x23 * y32) * (x30 * y01 + x31 * y11 + x32 * y21 + x33 * y31))) - (x00 * y01 + x01 * y11 + x02 * y21 + x03 * y31) * ((x10 * y00 + x11 * y10 + x12 * y20 + x13 * y30) * ((x20 * y02 + x21 * y12 + x22 * y22 + x23 * y32) * (x30 * y03 + x31 * y13 + x32 * y23 + x33 * y33) - (x20 * y03 + x21 * y13 + x22 * y23 + x23 * y33) * (x30 * y02 + x31 * y12 + x32 * y22 + x33 * y32)) - (x10 * y02 + x11 * y12 + x12 * y22 + x13 * y32) * ((x20 * y00 + x21 * y10 + x22 * y20 + x23 * y30) * (x30 * y03 + x31 * y13 + x32 * y23 + x33 * y33) - (x20 * y03 + x21 * y13 + x22 * y23 + x23 * y33) * (x30 * y00 + x31 * y10 + x32 * y20 + x33 * y30)) + (x10 * y03 + x11 * y13 + x12 * y23 + x13 * y33) * ((x20 * y00 + x21 * y10 + x22 * y20 + x23 * y30) * (x30 * y02 + x31 * y12 + x32 * y22 + x33 * y32) - (x20 * y02 + x21 * y12 + x22 * y22 + x23 * y32) * (x30 * y00 + x31 * y10 + x32 * y20 + x33 * y30))) + (x00 * y02 + x01 * y12 + x02 * y22 + x03 * y32) * ((x10 * y00 + x11 * y10 + x12 * y20 + x13 * y30) * ((x20 * y01 + x21 * y11 + x22 * y21 + x23 * y31) * (x30 * y03 + x31 * y13 + x32 * y23 + x33 * y33) - (x20 * y03 + x21 * y13 + x22 * y23 + x23 * y33) * (x30 * y01 + x31 * y11 + x32 * y21 + x33 * y31)) - (x10 * y01 + x11 * y11 + x12 * y21 + x13 * y31) * ((x20 * y00 + x21 * y10 + x22 * y20 + x23 * y30) * (x30 * y03 + x31 * y13 + x32 * y23 + x33 * y33) - (x20 * y03 + x21 * y13 + x22 * y23 + x23 * y33) * (x30 * y00 + x31 * y10 + x32 * y20 + x33 * y30)) + (x10 * y03 + x11 * y13 + x12 * y23 + x13 * y33) * ((x20 * y00 + x21 * y10 + x22 * y20 + x23 * y30) * (x30 * y01 + x31 * y11 + x32 * y21 + x33 * y31) - (x20 * y01 + x21 * y11 + x22 * y21 + x23 * y31) * (x30 * y00 + x31 * y10 + x32 * y20 + x33 * y30))) - (x00 * y03 + x01 * y13 + x02 * y23 + x03 * y33) * ((x10 * y00 + x11 * y10 + x12 * y20 + x13 * y30) * ((x20 * y01 + x21 * y11 + x22 * y21 + x23 * y31) * (x30 * y02 + x31 * y12 + x32 * y22 + x33 * y32) - (x20 * y02 + x21 * y12 + x22 * y22 + x23 * y32) * (x30 * y01 + x31 * y11 + x32 * y21 + x33 * y31)) - (x10 * y01 + x11 * y11 + x12 * y21 + x13 * y31) * ((x20 * y00 + x21 * y10 + x22 * y20 + x23 * y30) * (x30 * y02 + x31 * y12 + x32 * y22 + x33 * y32) - (x20 * y02 + x21 * y12 + x22 * y22 + x23 * y32) * (x30 * y00 + x31 * y10 + x32 * y20 + x33 * y30)) + (x10 * y02 + x11 * y12 + x12 * y22 + x13 * y32) * ((x20 * y00 + x21 * y10 + x22 * y20 + x23 * y30) * (x30 * y01 + x31 * y11 + x32 * y21 + x33 * y31) - (x20 * y01 + x21 * y11 + x22 * y21 + x23 * y31) * (x30 * y00 + x31 * y10 + x32 * y20 + x33 * y30)))) = (x00 * (x11 * (x22 * x33 - x23 * x32) - x12 * (x21 * x33 - x23 * x31) + x13 * (x21 * x32 - x22 * x31)) - x01 * (x10 * (x22 * x33 - x23 * x32) - x12 * (x20 * x33 - x23 * x30) + x13 * (x20 * x32 - x22 * x30)) + x02 * (x10 * (x21 * x33 - x23 * x31) - x11 * (x20 * x33 - x23 * x30) + x13 * (x20 * x31 - x21 * x30)) - x03 * (x10 * (x21 * x32 - x22 * x31) - x11 * (x20 * x32 - x22 * x30) + x12 * (x20 * x31 - x21 * x30))) * (y00 * (y11 * (y22 * y33 - y23 * y32) - y12 * (y21 * y33 - y23 * y31) + y13 * (y21 * y32 - y22 * y31)) - y01 * (y10 * (y22 * y33 - y23 * y32) - y12 * (y20 * y33 - y23 * y30) + y13 * (y20 * y32 - y22 * y30)) + y02 * (y10 * (y21 * y33 - y23 * y31) - y11 * (y20 * y33 - y23 * y30) + y13 * (y20 * y31 - y21 * y30)) - y03 * (y10 * (y21 * y32 - y22 * y31) - y11 * (y20 * y32 - y22 * y30) + y12 * (y20 * y31 - y21 * y30))) := by grind (ringSteps := 1000000)

theorem sq_form4 {X : List (List Int)} (h : Sq 4 X) : ∃ x00 x01 x02 x03 x10 x11 x12 x13 x20 x21 x22 x23 x30 x31 x32 x33 : Int, X = [[x00, x01, x02, x03], [x10, x11, x12, x13], [x20, x21, x22, x23], [x30, x31, x32, x33]] := by
  obtain ⟨h1, h2⟩ := h
  match X, h1 with
  | [r0, r1, r2, r3], _ =>
    have e0 := h2 r0 (by simp)
    have e1 := h2 r1 (by simp)
    have e2 := h2 r2 (by simp)
    have e3 := h2 r3 (by simp)
    match r0, e0, r1, e1, r2, e2, r3, e3 with
    | [x00, x01, x02, x03], _, [x10, x11, x12, x13], _, [x20, x21, x22, x23], _, [x30, x31, x32, x33], _ => exact ⟨x00, x01, x02, x03, x10, x11, x12, x13, x20, x21, x22, x23, x30, x31, x32, x33, rfl⟩

theorem mul_det4 {X Y : List (List Int)} (hX : Sq 4 X) (hY : Sq 4 Y) : detR 4 (mulM 4 X Y) = detR 4 X * detR 4 Y := by
  obtain ⟨x00, x01, x02, x03, x10, x11, x12, x13, x20, x21, x22, x23, x30, x31, x32, x33, rfl⟩ := sq_form4 hX
  obtain ⟨y00, y01, y02, y03, y10, y11, y12, y13, y20, y21, y22, y23, y30, y31, y32, y33, rfl⟩ := sq_form4 hY
  have e : mulM 4 [[x00, x01, x02, x03], [x10, x11, x12, x13], [x20, x21, x22, x23], [x30, x31, x32, x33]] [[y00, y01, y02, y03], [y10, y11, y12, y13], [y20, y21, y22, y23], [y30, y31, y32, y33]] = [[(0 + x00 * y00 + x01 * y10 + x02 * y20 + x03 * y30), (0 + x00 * y01 + x01 * y11 + x02 * y21 + x03 * y31), (0 + x00 * y02 + x01 * y12 + x02 * y22 + x03 * y32), (0 + x00 * y03 + x01 * y13 + x02 * y23 + x03 * y33)], [(0 + x10 * y00 + x11 * y10 + x12 * y20 + x13 * y30), (0 + x10 * y01 + x11 * y11 + x12 * y21 + x13 * y31), (0 + x10 * y02 + x11 * y12 + x12 * y22 + x13 * y32), (0 + x10 * y03 + x11 * y13 + x12 * y23 + x13 * y33)], [(0 + x20 * y00 + x21 * y10 + x22 * y20 + x23 * y30), (0 + x20 * y01 + x21 * y11 + x22 * y21 + x23 * y31), (0 + x20 * y02 + x21 * y12 + x22 * y22 + x23 * y32), (0 + x20 * y03 + x21 * y13 + x22 * y23 + x23 * y33)], [(0 + x30 * y00 + x31 * y10 + x32 * y20 + x33 * y30), (0 + x30 * y01 + x31 * y11 + x32 * y21 + x33 * y31), (0 + x30 * y02 + x31 * y12 + x32 * y22 + x33 * y32), (0 + x30 * y03 + x31 * y13 + x32 * y23 + x33 * y33)]] := rfl
  rw [e, det4, det4, det4]
  simp only [Int.zero_add]
  exact prod4 x00 x01 x02 x03 x10 x11 x12 x13 x20 x21 x22 x23 x30 x31 x32 x33 y00 y01 y02 y03 y10 y11 y12 y13 y20 y21 y22 y23 y30 y31 y32 y33

theorem swap_det4 {X : List (List Int)} (hX : Sq 4 X) {i k : Nat} (hi : i < 4) (hk : k < 4) (hne : i ≠ k) : detR 4 (swapM 4 X i k) = -detR 4 X := by
  obtain ⟨x00, x01, x02, x03, x10, x11, x12, x13, x20, x21, x22, x23, x30, x31, x32, x33, rfl⟩ := sq_form4 hX
  rw [det4]
  match i, k, hi, hk, hne with
  | 0, 0, _, _, hne => exact absurd rfl hne
  | 0, 1, _, _, _ =>
    rw [show swapM 4 [[x00, x01, x02, x03], [x10, x11, x12, x13], [x20, x21, x22, x23], [x30, x31, x32, x33]] 0 1 = [[x10, x11, x12, x13], [x00, x01, x02, x03], [x20, x21, x22, x23], [x30, x31, x32, x33]] from rfl, det4]; grind
  | 0, 2, _, _, _ =>
    rw [show swapM 4 [[x00, x01, x02, x03], [x10, x11, x12, x13], [x20, x21, x22, x23], [x30, x31, x32, x33]] 0 2 = [[x20, x21, x22, x23], [x10, x11, x12, x13], [x00, x01, x02, x03], [x30, x31, x32, x33]] from rfl, det4]; grind
  | 0, 3, _, _, _ =>
    rw [show swapM 4 [[x00, x01, x02, x03], [x10, x11, x12, x13], [x20, x21, x22, x23], [x30, x31, x32, x33]] 0 3 = [[x30, x31, x32, x33], [x10, x11, x12, x13], [x20, x21, x22, x23], [x00, x01, x02, x03]] from rfl, det4]; grind
  | 1, 0, _, _, _ =>
    rw [show swapM 4 [[x00, x01, x02, x03], [x10, x11, x12, x13], [x20, x21, x22, x23], [x30, x31, x32, x33]] 1 0 = [[x10, x11, x12, x13], [x00, x01, x02, x03], [x20, x21, x22, x23], [x30, x31, x32, x33]] from rfl, det4]; grind
  | 1, 1, _, _, hne => exact absurd rfl hne
  | 1, 2, _, _, _ =>
    rw [show swapM 4 [[x00, x01, x02, x03], [x10, x11, x12, x13], [x20, x21, x22, x23], [x30, x31, x32, x33]] 1 2 = [[x00, x01, x02, x03], [x20, x21, x22, x23], [x10, x11, x12, x13], [x30, x31, x32, x33]] from rfl, det4]; grind
  | 1, 3, _, _, _ =>
    rw [show swapM 4 [[x00, x01, x02, x03], [x10, x11, x12, x13], [x20, x21, x22, x23], [x30, x31, x32, x33]] 1 3 = [[x00, x01, x02, x03], [x30, x31, x32, x33], [x20, x21, x22, x23], [x10, x11, x12, x13]] from rfl, det4]; grind
  | 2, 0, _, _, _ =>
    rw [show swapM 4 [[x00, x01, x02, x03], [x10, x11, x12, x13], [x20, x21, x22, x23], [x30, x31, x32, x33]] 2 0 = [[x20, x21, x22, x23], [x10, x11, x12, x13], [x00, x01, x02, x03], [x30, x31, x32, x33]] from rfl, det4]; grind
  | 2, 1, _, _, _ =>
    rw [show swapM 4 [[x00, x01, x02, x03], [x10, x11, x12, x13], [x20, x21, x22, x23], [x30, x31, x32, x33]] 2 1 = [[x00, x01, x02, x03], [x20, x21, x22, x23], [x10, x11, x12, x13], [x30, x31, x32, x33]] from rfl, det4]; grind
  | 2, 2, _, _, hne => exact absurd rfl hne
  | 2, 3, _, _, _ =>
    rw [show swapM 4 [[x00, x01, x02, x03], [x10, x11, x12, x13], [x20, x21, x22, x23], [x30, x31, x32, x33]] 2 3 = [[x00, x01, x02, x03], [x10, x11, x12, x13], [x30, x31, x32, x33], [x20, x21, x22, x23]] from rfl, det4]; grind
  | 3, 0, _, _, _ =>
    rw [show swapM 4 [[x00, x01, x02, x03], [x10, x11, x12, x13], [x20, x21, x22, x23], [x30, x31, x32, x33]] 3 0 = [[x30, x31, x32, x33], [x10, x11, x12, x13], [x20, x21, x22, x23], [x00, x01, x02, x03]] from rfl, det4]; grind
  | 3, 1, _, _, _ =>
    rw [show swapM 4 [[x00, x01, x02, x03], [x10, x11, x12, x13], [x20, x21, x22, x23], [x30, x31, x32, x33]] 3 1 = [[x00, x01, x02, x03], [x30, x31, x32, x33], [x20, x21, x22, x23], [x10, x11, x12, x13]] from rfl, det4]; grind
  | 3, 2, _, _, _ =>
    rw [show swapM 4 [[x00, x01, x02, x03], [x10, x11, x12, x13], [x20, x21, x22, x23], [x30, x31, x32, x33]] 3 2 = [[x00, x01, x02, x03], [x10, x11, x12, x13], [x30, x31, x32, x33], [x20, x21, x22, x23]] from rfl, det4]; grind
  | 3, 3, _, _, hne => exact absurd rfl hne
  | i + 4, _, hi, _, _ => omega
  | _, k + 4, _, hk, _ => omega

theorem add_det4 {X : List (List Int)} (hX : Sq 4 X) {i k : Nat} (hi : i < 4) (hk : k < 4) (hne : i ≠ k) : detR 4 (addM 4 X i k) = detR 4 X := by
  obtain ⟨x00, x01, x02, x03, x10, x11, x12, x13, x20, x21, x22, x23, x30, x31, x32, x33, rfl⟩ := sq_form4 hX
  rw [det4]
  match i, k, hi, hk, hne with
  | 0, 0, _, _, hne => exact absurd rfl hne
  | 0, 1, _, _, _ =>
    rw [show addM 4 [[x00, x01, x02, x03], [x10, x11, x12, x13], [x20, x21, x22, x23], [x30, x31, x32, x33]] 0 1 = [[x00 + x10 * (-3), x01 + x11 * (-3), x02 + x12 * (-3), x03 + x13 * (-3)], [x10, x11, x12, x13], [x20, x21, x22, x23], [x30, x31, x32, x33]] from rfl, det4]; grind
  | 0, 2, _, _, _ =>
    rw [show addM 4 [[x00, x01, x02, x03], [x10, x11, x12, x13], [x20, x21, x22, x23], [x30, x31, x32, x33]] 0 2 = [[x00 + x20 * (-3), x01 + x21 * (-3), x02 + x22 * (-3), x03 + x23 * (-3)], [x10, x11, x12, x13], [x20, x21, x22, x23], [x30, x31, x32, x33]] from rfl, det4]; grind
  | 0, 3, _, _, _ =>
    rw [show addM 4 [[x00, x01, x02, x03], [x10, x11, x12, x13], [x20, x21, x22, x23], [x30, x31, x32, x33]] 0 3 = [[x00 + x30 * (-3), x01 + x31 * (-3), x02 + x32 * (-3), x03 + x33 * (-3)], [x10, x11, x12, x13], [x20, x21, x22, x23], [x30, x31, x32, x33]] from rfl, det4]; grind
  | 1, 0, _, _, _ =>
    rw [show addM 4 [[x00, x01, x02, x03], [x10, x11, x12, x13], [x20, x21, x22, x23], [x30, x31, x32, x33]] 1 0 = [[x00, x01, x02, x03], [x10 + x00 * (-3), x11 + x01 * (-3), x12 + x02 * (-3), x13 + x03 * (-3)], [x20, x21, x22, x23], [x30, x31, x32, x33]] from rfl, det4]; grind
  | 1, 1, _, _, hne => exact absurd rfl hne
  | 1, 2, _, _, _ =>
    rw [show addM 4 [[x00, x01, x02, x03], [x10, x11, x12, x13], [x20, x21, x22, x23], [x30, x31, x32, x33]] 1 2 = [[x00, x01, x02, x03], [x10 + x20 * (-3), x11 + x21 * (-3), x12 + x22 * (-3), x13 + x23 * (-3)], [x20, x21, x22, x23], [x30, x31, x32, x33]] from rfl, det4]; grind
  | 1, 3, _, _, _ =>
    rw [show addM 4 [[x00, x01, x02, x03], [x10, x11, x12, x13], [x20, x21, x22, x23], [x30, x31, x32, x33]] 1 3 = [[x00, x01, x02, x03], [x10 + x30 * (-3), x11 + x31 * (-3), x12 + x32 * (-3), x13 + x33 * (-3)], [x20, x21, x22, x23], [x30, x31, x32, x33]] from rfl, det4]; grind
  | 2, 0, _, _, _ =>
    rw [show addM 4 [[x00, x01, x02, x03], [x10, x11, x12, x13], [x20, x21, x22, x23], [x30, x31, x32, x33]] 2 0 = [[x00, x01, x02, x03], [x10, x11, x12, x13], [x20 + x00 * (-3), x21 + x01 * (-3), x22 + x02 * (-3), x23 + x03 * (-3)], [x30, x31, x32, x33]] from rfl, det4]; grind
  | 2, 1, _, _, _ =>
    rw [show addM 4 [[x00, x01, x02, x03], [x10, x11, x12, x13], [x20, x21, x22, x23], [x30, x31, x32, x33]] 2 1 = [[x00, x01, x02, x03], [x10, x11, x12, x13], [x20 + x10 * (-3), x21 + x11 * (-3), x22 + x12 * (-3), x23 + x13 * (-3)], [x30, x31, x32, x33]] from rfl, det4]; grind
  | 2, 2, _, _, hne => exact absurd rfl hne
  | 2, 3, _, _, _ =>
    rw [show addM 4 [[x00, x01, x02, x03], [x10, x11, x12, x13], [x20, x21, x22, x23], [x30, x31, x32, x33]] 2 3 = [[x00, x01, x02, x03], [x10, x11, x12, x13], [x20 + x30 * (-3), x21 + x31 * (-3), x22 + x32 * (-3), x23 + x33 * (-3)], [x30, x31, x32, x33]] from rfl, det4]; grind
  | 3, 0, _, _, _ =>
    rw [show addM 4 [[x00, x01, x02, x03], [x10, x11, x12, x13], [x20, x21, x22, x23], [x30, x31, x32, x33]] 3 0 = [[x00, x01, x02, x03], [x10, x11, x12, x13], [x20, x21, x22, x23], [x30 + x00 * (-3), x31 + x01 * (-3), x32 + x02 * (-3), x33 + x03 * (-3)]] from rfl, det4]; grind
  | 3, 1, _, _, _ =>
    rw [show addM 4 [[x00, x01, x02, x03], [x10, x11, x12, x13], [x20, x21, x22, x23], [x30, x31, x32, x33]] 3 1 = [[x00, x01, x02, x03], [x10, x11, x12, x13], [x20, x21, x22, x23], [x30 + x10 * (-3), x31 + x11 * (-3), x32 + x12 * (-3), x33 + x13 * (-3)]] from rfl, det4]; grind
  | 3, 2, _, _, _ =>
    rw [show addM 4 [[x00, x01, x02, x03], [x10, x11, x12, x13], [x20, x21, x22, x23], [x30, x31, x32, x33]] 3 2 = [[x00, x01, x02, x03], [x10, x11, x12, x13], [x20, x21, x22, x23], [x30 + x20 * (-3), x31 + x21 * (-3), x32 + x22 * (-3), x33 + x23 * (-3)]] from rfl, det4]; grind
  | 3, 3, _, _, hne => exact absurd rfl hne
  | i + 4, _, hi, _, _ => omega
  | _, k + 4, _, hk, _ => omega

theorem mul_det {n : Nat} (h2 : 2 ≤ n) (h4 : n ≤ 4) {X Y : List (List Int)} (hX : Sq n X) (hY : Sq n Y) : detR n (mulM n X Y) = detR n X * detR n Y := by
  have : n = 2 ∨ n = 3 ∨ n = 4 := by omega
  rcases this with rfl | rfl | rfl
  · exact mul_det2 hX hY
  · exact mul_det3 hX hY
  · exact mul_det4 hX hY
theorem swap_det {n : Nat} (h2 : 2 ≤ n) (h4 : n ≤ 4) {X : List (List Int)} (hX : Sq n X) {i k : Nat} (hi : i < n) (hk : k < n) (hne : i ≠ k) : detR n (swapM n X i k) = -detR n X := by
  have : n = 2 ∨ n = 3 ∨ n = 4 := by omega
  rcases this with rfl | rfl | rfl
  · exact swap_det2 hX hi hk hne
  · exact swap_det3 hX hi hk hne
  · exact swap_det4 hX hi hk hne
theorem add_det {n : Nat} (h2 : 2 ≤ n) (h4 : n ≤ 4) {X : List (List Int)} (hX : Sq n X) {i k : Nat} (hi : i < n) (hk : k < n) (hne : i ≠ k) : detR n (addM n X i k) = detR n X := by
  have : n = 2 ∨ n = 3 ∨ n = 4 := by omega
  rcases this with rfl | rfl | rfl
  · exact add_det2 hX hi hk hne
  · exact add_det3 hX hi hk hne
  · exact add_det4 hX hi hk hne

end Go.Proofs.YtapfkinpdinbgaaDoor

namespace Go.Proofs.YtapfkinpdinbgaaDoor
open Go.RowKit

/-- A square of numbers with at most m bytes. -/
structure CSq (n m : Nat) (X : List (List (List UInt8))) : Prop where
  len : X.length = n
  rows : ∀ r ∈ X, r.length = n ∧ ∀ s ∈ r, numB s = true ∧ s.length ≤ m

theorem CSq.sq {n m : Nat} {X : List (List (List UInt8))} (h : CSq n m X) : Sq n (valRows X) := by
  refine ⟨by unfold valRows; rw [List.length_map]; exact h.len, fun row hrow => ?_⟩
  obtain ⟨r, hr, rfl⟩ := List.mem_map.1 hrow
  unfold valRow
  rw [List.length_map]
  exact (h.rows r hr).1
theorem CSq.want {n m : Nat} {X : List (List (List UInt8))} (h : CSq n m X) (hn : n ≤ 6) : wantE X = 0 := by
  have h1 : allR X = true := by
    unfold allR allN
    rw [List.all_eq_true]
    intro r hr
    rw [List.all_eq_true]
    intro s hs
    exact ((h.rows r hr).2 s hs).1
  have h2 : sqR X = true := by
    unfold sqR
    simp only [Bool.and_eq_true, decide_eq_true_eq, List.all_eq_true]
    have := h.len
    exact ⟨by omega, fun r hr => by rw [h.len]; exact (h.rows r hr).1⟩
  unfold wantE
  rw [if_pos h1, if_pos h2]

theorem altS_bound {xs : List Int} {f : Nat → Int} {B F : Nat} : ∀ k, (∀ c, c < k → (ent xs c).natAbs ≤ B ∧ (f c).natAbs ≤ F) → (altS xs f k).natAbs ≤ k * (B * F)
  | 0, _ => by simp [altS]
  | k + 1, h => by
    have ih := altS_bound k (fun c hc => h c (by omega))
    obtain ⟨h1, h2⟩ := h k (by omega)
    have h3 : (ent xs k * f k).natAbs ≤ B * F := by rw [Int.natAbs_mul]; exact Nat.mul_le_mul h1 h2
    show (altS xs f k + (if k % 2 = 1 then -(ent xs k * f k) else ent xs k * f k)).natAbs ≤ _
    have h4 : (if k % 2 = 1 then -(ent xs k * f k) else ent xs k * f k).natAbs ≤ B * F := by split <;> (try rw [Int.natAbs_neg]) <;> exact h3
    have h5 := Int.natAbs_add_le (altS xs f k) (if k % 2 = 1 then -(ent xs k * f k) else ent xs k * f k)
    rw [Nat.add_mul, Nat.one_mul]
    omega

theorem ent_bound {xs : List Int} {B : Nat} (h : ∀ x ∈ xs, x.natAbs ≤ B) (c : Nat) : (ent xs c).natAbs ≤ B := by
  unfold ent
  cases hx : xs[c]? with
  | none => simp
  | some y => exact h y (List.mem_of_getElem? hx)

theorem detR_bound {B : Nat} : ∀ n, n ≤ 4 → ∀ M : List (List Int), (∀ row ∈ M, ∀ x ∈ row, x.natAbs ≤ B) → (detR n M).natAbs ≤ (4 * B) ^ n
  | 0, _, _, _ => by simp [detR]
  | n + 1, hn, M, h => by
    have hhead : ∀ x ∈ M.headD [], x.natAbs ≤ B := by
      cases M with
      | nil => intro x hx; cases hx
      | cons r T => exact h r List.mem_cons_self
    have hf : ∀ c, (detR n (M.tail.map (cutAt c))).natAbs ≤ (4 * B) ^ n := by
      intro c
      refine detR_bound n (by omega) _ fun row hrow x hx => ?_
      obtain ⟨r, hr, rfl⟩ := List.mem_map.1 hrow
      have hx' : x ∈ r := by
        unfold cutAt at hx
        rcases List.mem_append.1 hx with hx | hx
        · exact List.mem_of_mem_take hx
        · exact List.mem_of_mem_drop hx
      exact h r (List.mem_of_mem_tail hr) x hx'
    have h1 := altS_bound (n + 1) (fun c _ => ⟨ent_bound hhead c, hf c⟩) (xs := M.headD []) (f := fun c => detR n (M.tail.map (cutAt c)))
    show (altS (M.headD []) (fun c => detR n (M.tail.map (cutAt c))) (n + 1)).natAbs ≤ _
    refine Nat.le_trans h1 ?_
    rw [Nat.pow_succ, Nat.mul_comm ((4 * B) ^ n), ← Nat.mul_assoc]
    exact Nat.mul_le_mul_right _ (Nat.mul_le_mul_right _ (by omega))

theorem CSq.small {n m : Nat} {X : List (List (List UInt8))} (h : CSq n m X) (hn : n ≤ 4) : (detR n (valRows X)).natAbs < 10 ^ ((m + 1) * 4 + 1) := by
  have h1 : (detR n (valRows X)).natAbs ≤ (4 * 10 ^ m) ^ n := by
    refine detR_bound n hn _ fun row hrow x hx => ?_
    obtain ⟨r, hr, rfl⟩ := List.mem_map.1 hrow
    obtain ⟨s, hs, rfl⟩ := List.mem_map.1 hx
    obtain ⟨h1, h2⟩ := (h.rows r hr).2 s hs
    exact Nat.le_of_lt (strV_bound h1 h2)
  have h2 : 4 * 10 ^ m ≤ 10 ^ (m + 1) := by rw [Nat.pow_succ]; omega
  have h3 : (4 * 10 ^ m) ^ n ≤ (10 ^ (m + 1)) ^ 4 := Nat.le_trans (Nat.pow_le_pow_left h2 n) (Nat.pow_le_pow_right (Nat.pow_pos (by decide)) hn)
  rw [← Nat.pow_mul] at h3
  have h4 : 10 ^ ((m + 1) * 4) < 10 ^ ((m + 1) * 4 + 1) := Nat.pow_lt_pow_right (by decide) (by omega)
  omega

/-- What a call hands back: a number that is not long. -/
def NumOutS (w : World) (z : Int) (e : Ending) (w' : World) : Prop := e = .returned (.tuple #[.string ⟨(Lib.itoa z).toArray⟩, .int .i64 0]) ∧ Below w.heap.size w w'
theorem outIs_short {w : World} {z : Int} {k : Nat} (hk : 1 ≤ k) (h : z.natAbs < 10 ^ k) (h2 : k ≤ 2000) {e : Ending} {w' : World} (ho : OutIs w z e w') : NumOutS w z e w' := by
  obtain ⟨h1, h3⟩ := out_plain (longB_of hk h h2)
  unfold OutIs at ho
  rw [h1, h3] at ho
  exact ho

theorem CSq.det {n m : Nat} {X : List (List (List UInt8))} (h : CSq n m X) (hn : n ≤ 4) (hm : m ≤ 400) (p : Option Addr) (c : Nat) (w : World) (hr : RdLL w p X) (htab : Tab w) :
    Calls Tryd.prog 35 #[.slice p n c] w (NumOutS w (detR n (valRows X))) := by
  have hd := detL_any p n c X w h.len (by omega) hr (by
    intro r hr'
    obtain ⟨h1, h2⟩ := h.rows r hr'
    exact ⟨by omega, fun s hs => by have := (h2 s hs).2; omega⟩) htab
  refine hd.mono ?_
  rintro e w' ⟨_, h2, hb⟩
  have hsq := h.sq
  have e1 : detZ (valRows X) = detR n (valRows X) := by
    rw [detZ_detR _ (by rw [hsq.1]; exact hsq.2), hsq.1]
  obtain ⟨g1, g2⟩ := out_plain (longB_of (by omega) (h.small hn) (by omega))
  have h2' := h2 (h.want (by omega))
  rw [e1, g1, g2] at h2'
  exact ⟨h2', hb⟩

theorem itoa_ok {z : Int} {k : Nat} (hk : 1 ≤ k) (h : z.natAbs < 10 ^ k) (h2 : k ≤ 2000) : numB (Lib.itoa z) = true ∧ strV (Lib.itoa z) = z ∧ (Lib.itoa z).length ≤ k + 1 :=
  ⟨itoa_num (Nat.le_trans (nDigits_le hk h) h2), (itoa_says z).2.1, itoa_len hk h⟩

theorem mulS (a b : List UInt8) (k : Nat) (w : World) (h1 : numB a = true) (h2 : numB b = true) (ha : a.length ≤ k) (hb : b.length ≤ k) (hk : 1 ≤ k) (hk2 : k ≤ 1000) (htab : Tab w) :
    Calls Tryd.prog 24 #[.string ⟨a.toArray⟩, .string ⟨b.toArray⟩] w (NumOutS w (strV a * strV b)) :=
  (mulL a b w (by omega) (by omega) h1 h2 htab).mono fun _ _ h => outIs_short (k := k + k) (by omega) (ten_mul (strV_bound h1 ha) (strV_bound h2 hb)) (by omega) h
theorem addS (a b : List UInt8) (k : Nat) (w : World) (h1 : numB a = true) (h2 : numB b = true) (ha : a.length ≤ k) (hb : b.length ≤ k) (hk : 1 ≤ k) (hk2 : k ≤ 1000) (htab : Tab w) :
    Calls Tryd.prog 22 #[.string ⟨a.toArray⟩, .string ⟨b.toArray⟩] w (NumOutS w (strV a + strV b)) :=
  (addL a b w (by omega) (by omega) h1 h2 htab).mono fun _ _ h => outIs_short (k := k + 1) (by omega) (ten_add (strV_bound h1 ha) (strV_bound h2 hb)).1 (by omega) h
theorem subS (a b : List UInt8) (k : Nat) (w : World) (h1 : numB a = true) (h2 : numB b = true) (ha : a.length ≤ k) (hb : b.length ≤ k) (hk : 1 ≤ k) (hk2 : k ≤ 1000) (htab : Tab w) :
    Calls Tryd.prog 23 #[.string ⟨a.toArray⟩, .string ⟨b.toArray⟩] w (NumOutS w (strV a - strV b)) :=
  (subL a b w (by omega) (by omega) h1 h2 htab).mono fun _ _ h => outIs_short (k := k + 1) (by omega) (ten_add (strV_bound h1 ha) (strV_bound h2 hb)).2 (by omega) h

theorem sumZ_bound {ls : List Int} {B : Nat} (h : ∀ z ∈ ls, z.natAbs ≤ B) : (sumZ ls).natAbs ≤ ls.length * B := by
  have hg : ∀ (m : List Int) (acc : Int), (∀ z ∈ m, z.natAbs ≤ B) → (m.foldl (· + ·) acc).natAbs ≤ acc.natAbs + m.length * B := by
    intro m
    induction m with
    | nil => intro acc _; simp
    | cons s m ih =>
      intro acc hm
      have h1 := ih (acc + s) (fun t ht => hm t (List.mem_cons_of_mem _ ht))
      have h2 := hm s List.mem_cons_self
      have h3 : (acc + s).natAbs ≤ acc.natAbs + s.natAbs := Int.natAbs_add_le _ _
      simp only [List.foldl_cons, List.length_cons, Nat.add_mul, Nat.one_mul]
      omega
  have := hg ls 0 h
  simpa [sumZ] using this

/-- Sums of few short numbers. -/
theorem sumS (p : Option Addr) (n c k : Nat) (ls : List (List UInt8)) (w : World) (hl : ls.length = n) (hn : n ≤ 10) (hr : RdL w p ls) (hs : ∀ s ∈ ls, numB s = true ∧ s.length ≤ k) (hk : 1 ≤ k) (hk2 : k ≤ 1000) (htab : Tab w) :
    Calls Tryd.prog 34 #[.slice p n c] w (NumOutS w (sumZ (ls.map strV))) := by
  have hall : allN ls = true := by unfold allN; rw [List.all_eq_true]; exact fun s hs' => (hs s hs').1
  have h := sumList_any p n c (ls.map bA) w (by rw [List.length_map]; exact hl) (by omega) hr.toS (by
    intro s hs'
    obtain ⟨t, ht, rfl⟩ := List.mem_map.1 hs'
    exact bytes_small (by have := (hs t ht).2; omega)) htab
  have e1 : sumStr (ls.map bA) = outS (sumZ (ls.map strV)) := by unfold sumStr; rw [allB_map, hall, if_pos rfl, if_neg (by rw [List.length_map]; omega), vals_map]
  have e2 : sumErr (ls.map bA) = outE (sumZ (ls.map strV)) := by unfold sumErr; rw [allB_map, hall, if_pos rfl, if_neg (by rw [List.length_map]; omega), vals_map]
  rw [e1, e2] at h
  have hb : (sumZ (ls.map strV)).natAbs < 10 ^ (k + 2) := by
    have h1 := sumZ_bound (ls := ls.map strV) (B := 10 ^ k) (by
      intro z hz
      obtain ⟨t, ht, rfl⟩ := List.mem_map.1 hz
      exact Nat.le_of_lt (strV_bound (hs t ht).1 (hs t ht).2))
    rw [List.length_map, hl] at h1
    have h2 : n * 10 ^ k ≤ 10 * 10 ^ k := Nat.mul_le_mul_right _ hn
    have h3 : 0 < 10 ^ k := Nat.pow_pos (by decide)
    rw [Nat.pow_add]
    omega
  exact h.mono fun _ _ ho => outIs_short (k := k + 2) (by omega) hb (by omega) ho

/-- The text at a place. -/
def entS (X : List (List (List UInt8))) (i j : Nat) : List UInt8 := (((X[i]?).getD [])[j]?).getD []
theorem CSq.at {n m : Nat} {X : List (List (List UInt8))} (h : CSq n m X) {i j : Nat} (hi : i < n) (hj : j < n) :
    ∃ r, X[i]? = some r ∧ r.length = n ∧ r[j]? = some (entS X i j) ∧ numB (entS X i j) = true ∧ (entS X i j).length ≤ m ∧ strV (entS X i j) = at2 (valRows X) i j ∧ (strV (entS X i j)).natAbs < 10 ^ m := by
  have hil : i < X.length := by rw [h.len]; exact hi
  obtain ⟨hr1, hr2⟩ := h.rows X[i] (List.getElem_mem hil)
  have hjl : j < X[i].length := by rw [hr1]; exact hj
  have e : entS X i j = X[i][j] := by unfold entS; rw [List.getElem?_eq_getElem hil]; show ((X[i])[j]?).getD [] = _; rw [List.getElem?_eq_getElem hjl]; rfl
  obtain ⟨hs1, hs2⟩ := hr2 X[i][j] (List.getElem_mem hjl)
  refine ⟨X[i], List.getElem?_eq_getElem hil, hr1, by rw [e]; exact List.getElem?_eq_getElem hjl, by rw [e]; exact hs1, by rw [e]; exact hs2, ?_, by rw [e]; exact strV_bound hs1 hs2⟩
  rw [e]
  unfold at2 valRows ent
  rw [List.getElem?_map, List.getElem?_eq_getElem hil]
  show strV X[i][j] = ((valRow X[i])[j]?).getD 0
  unfold valRow
  rw [List.getElem?_map, List.getElem?_eq_getElem hjl]
  rfl

/-- The product's elements. -/
def prE (n : Nat) (X Y : List (List (List UInt8))) (r c : Nat) : Int := sumZ ((List.range n).map fun t => at2 (valRows X) r t * at2 (valRows Y) t c)
def prT (X Y : List (List (List UInt8))) (r c m : Nat) : List (List UInt8) := (List.range m).map fun t => Lib.itoa (at2 (valRows X) r t * at2 (valRows Y) t c)
def prRow (n : Nat) (X Y : List (List (List UInt8))) (r m : Nat) : List (List UInt8) := (List.range m).map fun c => Lib.itoa (prE n X Y r c)
def prRows (n : Nat) (X Y : List (List (List UInt8))) (m : Nat) : List (List (List UInt8)) := (List.range m).map fun r => prRow n X Y r n
theorem prT_succ (X Y : List (List (List UInt8))) (r c m : Nat) : prT X Y r c (m + 1) = prT X Y r c m ++ [Lib.itoa (at2 (valRows X) r m * at2 (valRows Y) m c)] := by unfold prT; rw [List.range_succ, List.map_append]; rfl
theorem prRow_succ (n : Nat) (X Y : List (List (List UInt8))) (r m : Nat) : prRow n X Y r (m + 1) = prRow n X Y r m ++ [Lib.itoa (prE n X Y r m)] := by unfold prRow; rw [List.range_succ, List.map_append]; rfl
theorem prRows_succ (n : Nat) (X Y : List (List (List UInt8))) (m : Nat) : prRows n X Y (m + 1) = prRows n X Y m ++ [prRow n X Y m n] := by unfold prRows; rw [List.range_succ, List.map_append]; rfl
theorem prT_len (X Y : List (List (List UInt8))) (r c m : Nat) : (prT X Y r c m).length = m := by unfold prT; simp
theorem prRow_len (n : Nat) (X Y : List (List (List UInt8))) (r m : Nat) : (prRow n X Y r m).length = m := by unfold prRow; simp
theorem prRows_len (n : Nat) (X Y : List (List (List UInt8))) (m : Nat) : (prRows n X Y m).length = m := by unfold prRows; simp

theorem prT_ok {n : Nat} {X Y : List (List (List UInt8))} (hX : CSq n 13 X) (hY : CSq n 13 Y) {r c : Nat} (hr : r < n) (hc : c < n) : (∀ s ∈ prT X Y r c n, numB s = true ∧ s.length ≤ 27) ∧ (prT X Y r c n).map strV = (List.range n).map fun t => at2 (valRows X) r t * at2 (valRows Y) t c := by
  have hb : ∀ t, t < n → (at2 (valRows X) r t * at2 (valRows Y) t c).natAbs < 10 ^ (13 + 13) := by
    intro t ht
    obtain ⟨_, _, _, _, _, _, e1, b1⟩ := hX.at hr ht
    obtain ⟨_, _, _, _, _, _, e2, b2⟩ := hY.at ht hc
    rw [← e1, ← e2]
    exact ten_mul b1 b2
  refine ⟨fun s hs => ?_, ?_⟩
  · unfold prT at hs
    obtain ⟨t, ht, rfl⟩ := List.mem_map.1 hs
    obtain ⟨i1, _, i3⟩ := itoa_ok (by decide) (hb t (List.mem_range.1 ht)) (by decide)
    exact ⟨i1, i3⟩
  · unfold prT
    rw [List.map_map]
    refine List.map_congr_left fun t ht => ?_
    exact (itoa_ok (by decide) (hb t (List.mem_range.1 ht)) (by decide)).2.1
theorem prE_small {n : Nat} {X Y : List (List (List UInt8))} (hX : CSq n 13 X) (hY : CSq n 13 Y) (hn : n ≤ 4) {r c : Nat} (hr : r < n) (hc : c < n) : (prE n X Y r c).natAbs < 10 ^ 28 := by
  have h1 := sumZ_bound (ls := (List.range n).map fun t => at2 (valRows X) r t * at2 (valRows Y) t c) (B := 10 ^ 26) (by
    intro z hz
    obtain ⟨t, ht, rfl⟩ := List.mem_map.1 hz
    obtain ⟨_, _, _, _, _, _, e1, b1⟩ := hX.at hr (List.mem_range.1 ht)
    obtain ⟨_, _, _, _, _, _, e2, b2⟩ := hY.at (List.mem_range.1 ht) hc
    rw [← e1, ← e2]
    exact Nat.le_of_lt (ten_mul b1 b2))
  rw [List.length_map, List.length_range] at h1
  have h2 : n * 10 ^ 26 ≤ 4 * 10 ^ 26 := Nat.mul_le_mul_right _ hn
  show (sumZ _).natAbs < _
  omega
theorem prRows_ok {n : Nat} {X Y : List (List (List UInt8))} (hX : CSq n 13 X) (hY : CSq n 13 Y) (hn : n ≤ 4) : CSq n 60 (prRows n X Y n) ∧ valRows (prRows n X Y n) = mulM n (valRows X) (valRows Y) := by
  refine ⟨⟨prRows_len _ _ _ _, fun r hr => ?_⟩, ?_⟩
  · unfold prRows at hr
    obtain ⟨i, hi, rfl⟩ := List.mem_map.1 hr
    refine ⟨prRow_len _ _ _ _ _, fun s hs => ?_⟩
    unfold prRow at hs
    obtain ⟨c, hc, rfl⟩ := List.mem_map.1 hs
    obtain ⟨i1, _, i3⟩ := itoa_ok (by decide) (prE_small hX hY hn (List.mem_range.1 hi) (List.mem_range.1 hc)) (by decide)
    exact ⟨i1, by omega⟩
  · unfold valRows prRows mulM
    rw [List.map_map]
    refine List.map_congr_left fun i hi => ?_
    show valRow (prRow n X Y i n) = _
    unfold valRow prRow
    rw [List.map_map]
    refine List.map_congr_left fun c hc => ?_
    exact (itoa_ok (by decide) (prE_small hX hY hn (List.mem_range.1 hi) (List.mem_range.1 hc)) (by decide)).2.1

/-- Rows exchanged. -/
def zRow (X : List (List (List UInt8))) (i k r : Nat) : List (List UInt8) := if r = i then (X[k]?).getD [] else if r = k then (X[i]?).getD [] else (X[r]?).getD []
def zRows (X : List (List (List UInt8))) (i k m : Nat) : List (List (List UInt8)) := (List.range m).map fun r => zRow X i k r
theorem zRows_succ (X : List (List (List UInt8))) (i k m : Nat) : zRows X i k (m + 1) = zRows X i k m ++ [zRow X i k m] := by unfold zRows; rw [List.range_succ, List.map_append]; rfl
theorem zRows_len (X : List (List (List UInt8))) (i k m : Nat) : (zRows X i k m).length = m := by unfold zRows; simp
theorem row_val (X : List (List (List UInt8))) (r : Nat) : valRow ((X[r]?).getD []) = ((valRows X)[r]?).getD [] := by
  unfold valRows
  rw [List.getElem?_map]
  cases X[r]? <;> rfl
theorem CSq.row {n m : Nat} {X : List (List (List UInt8))} (h : CSq n m X) {r : Nat} (hr : r < n) : X[r]? = some ((X[r]?).getD []) ∧ ((X[r]?).getD []).length = n ∧ ∀ s ∈ (X[r]?).getD [], numB s = true ∧ s.length ≤ m := by
  have hl : r < X.length := by rw [h.len]; exact hr
  rw [List.getElem?_eq_getElem hl]
  exact ⟨rfl, h.rows _ (List.getElem_mem hl)⟩
theorem zRows_ok {n m : Nat} {X : List (List (List UInt8))} (h : CSq n m X) {i k : Nat} (hi : i < n) (hk : k < n) : CSq n m (zRows X i k n) ∧ valRows (zRows X i k n) = swapM n (valRows X) i k := by
  refine ⟨⟨zRows_len _ _ _ _, fun r hr => ?_⟩, ?_⟩
  · unfold zRows at hr
    obtain ⟨j, hj, rfl⟩ := List.mem_map.1 hr
    unfold zRow
    split
    · exact (h.row hk).2
    · split
      · exact (h.row hi).2
      · exact (h.row (List.mem_range.1 hj)).2
  · show List.map valRow (zRows X i k n) = swapM n (valRows X) i k
    unfold zRows swapM
    rw [List.map_map]
    refine List.map_congr_left fun j _ => ?_
    show valRow (zRow X i k j) = _
    unfold zRow
    split
    · exact row_val X k
    · split
      · exact row_val X i
      · exact row_val X j

/-- A multiple of a row added to another one, as far as column c. -/
def aE (X : List (List (List UInt8))) (i k j : Nat) : Int := at2 (valRows X) i j + at2 (valRows X) k j * (-3)
def aRow (n : Nat) (X : List (List (List UInt8))) (i k c : Nat) : List (List UInt8) := (List.range n).map fun j => if j < c then Lib.itoa (aE X i k j) else entS X i j
def aRows (n : Nat) (X : List (List (List UInt8))) (i k c : Nat) : List (List (List UInt8)) := X.set i (aRow n X i k c)
theorem aRow_len (n : Nat) (X : List (List (List UInt8))) (i k c : Nat) : (aRow n X i k c).length = n := by unfold aRow; simp
theorem aRow_succ {n : Nat} (X : List (List (List UInt8))) (i k c : Nat) (hc : c < n) : aRow n X i k (c + 1) = (aRow n X i k c).set c (Lib.itoa (aE X i k c)) := by
  refine List.ext_getElem? fun j => ?_
  rw [List.getElem?_set]
  unfold aRow
  rw [List.getElem?_map, List.getElem?_map]
  by_cases hj : j < n
  · rw [List.getElem?_range hj]
    by_cases e : c = j
    · subst e; simp [hc]
    · rw [if_neg e]
      simp only [Option.map_some, Option.some.injEq]
      by_cases h1 : j < c
      · rw [if_pos h1, if_pos (by omega)]
      · rw [if_neg h1, if_neg (by omega)]
  · rw [List.getElem?_eq_none (by simp; omega)]
    rw [if_neg (by omega)]
    rfl
theorem aRow_zero {n m : Nat} {X : List (List (List UInt8))} (h : CSq n m X) {i k : Nat} (hi : i < n) : aRow n X i k 0 = (X[i]?).getD [] := by
  obtain ⟨h1, h2, _⟩ := h.row hi
  refine List.ext_getElem? fun j => ?_
  unfold aRow
  rw [List.getElem?_map]
  by_cases hj : j < n
  · rw [List.getElem?_range hj]
    obtain ⟨r, e1, e2, e3, _⟩ := h.at hi hj
    rw [e1]
    show some (if j < 0 then _ else entS X i j) = r[j]?
    rw [e3, if_neg (by omega)]
  · rw [List.getElem?_eq_none (by simp; omega), List.getElem?_eq_none (by omega)]
    rfl
theorem aE_small {n : Nat} {X : List (List (List UInt8))} (h : CSq n 13 X) {i k j : Nat} (hi : i < n) (hk : k < n) (hj : j < n) : (at2 (valRows X) k j * (-3)).natAbs < 10 ^ 14 ∧ (aE X i k j).natAbs < 10 ^ 15 := by
  obtain ⟨_, _, _, _, _, _, e1, b1⟩ := h.at hi hj
  obtain ⟨_, _, _, _, _, _, e2, b2⟩ := h.at hk hj
  rw [e1] at b1
  rw [e2] at b2
  unfold aE
  omega
theorem aRows_zero {n m : Nat} {X : List (List (List UInt8))} (h : CSq n m X) {i k : Nat} (hi : i < n) : aRows n X i k 0 = X := by
  unfold aRows
  rw [aRow_zero h hi]
  have hl : i < X.length := by rw [h.len]; exact hi
  rw [List.getElem?_eq_getElem hl]
  exact List.set_getElem_self hl
theorem aRows_ok {n : Nat} {X : List (List (List UInt8))} (h : CSq n 13 X) {i k : Nat} (hi : i < n) (hk : k < n) (c : Nat) (hc : c ≤ n) : CSq n 60 (aRows n X i k c) := by
  refine ⟨by unfold aRows; rw [List.length_set]; exact h.len, fun r hr => ?_⟩
  unfold aRows at hr
  rcases List.mem_or_eq_of_mem_set hr with hr | rfl
  · obtain ⟨h1, h2⟩ := h.rows r hr
    exact ⟨h1, fun s hs => ⟨(h2 s hs).1, by have := (h2 s hs).2; omega⟩⟩
  · refine ⟨aRow_len _ _ _ _ _, fun s hs => ?_⟩
    unfold aRow at hs
    obtain ⟨j, hj, rfl⟩ := List.mem_map.1 hs
    have hj := List.mem_range.1 hj
    split
    · obtain ⟨i1, _, i3⟩ := itoa_ok (by decide) (aE_small h hi hk hj).2 (by decide)
      exact ⟨i1, by omega⟩
    · obtain ⟨_, _, _, _, e4, e5, _, _⟩ := h.at hi hj
      exact ⟨e4, by omega⟩
theorem aRows_val {n : Nat} {X : List (List (List UInt8))} (h : CSq n 13 X) {i k : Nat} (hi : i < n) (hk : k < n) : valRows (aRows n X i k n) = addM n (valRows X) i k := by
  refine List.ext_getElem? fun r => ?_
  show ((aRows n X i k n).map valRow)[r]? = (addM n (valRows X) i k)[r]?
  unfold aRows addM
  rw [List.getElem?_map, List.getElem?_map, List.getElem?_set]
  by_cases hr : r < n
  · rw [List.getElem?_range hr]
    by_cases e : i = r
    · subst e
      rw [if_pos rfl, if_pos (by rw [h.len]; exact hi)]
      simp only [Option.map_some, if_true, Option.some.injEq]
      unfold valRow aRow
      rw [List.map_map]
      refine List.map_congr_left fun j hj => ?_
      have hj := List.mem_range.1 hj
      show strV (if j < n then _ else _) = _
      rw [if_pos hj]
      exact (itoa_ok (by decide) (aE_small h hi hk hj).2 (by decide)).2.1
    · rw [if_neg e]
      simp only [Option.map_some]
      rw [if_neg (fun e' => e e'.symm), ← row_val X r, (h.row hr).1]
      rfl
  · have g1 : (List.range n)[r]? = none := List.getElem?_eq_none (by rw [List.length_range]; omega)
    have g2 : X[r]? = none := List.getElem?_eq_none (by rw [h.len]; omega)
    rw [g1, g2, if_neg (by omega)]
    rfl

end Go.Proofs.YtapfkinpdinbgaaDoor
