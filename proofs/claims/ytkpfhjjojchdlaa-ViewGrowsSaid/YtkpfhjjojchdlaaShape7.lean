/-
  Layer 7, plain: shapes as lists of numbers: right, how many cells, strides, places, and what P703 and P704 say.
-/
import Derived.Test.YtkpfhjjojchdlaaSlices
import Derived.Test.YtkpfhjjojchdlaaRowI
namespace Go.Proofs.Ytkpfhjjojchdlaa
open Go.ChangeShapes Go.WideShapes Go.ChangeAt Go.RowKit
set_option linter.unusedVariables false
set_option maxRecDepth 100000

def rightS (s : List Int) : Bool := decide ((∀ z ∈ s, 0 ≤ z ∧ z ≤ 1048576) ∧ s.length ≤ 6)
theorem right_all {s : List Int} (h : rightS s = true) : (∀ z ∈ s, 0 ≤ z ∧ z ≤ 1048576) ∧ s.length ≤ 6 := of_decide_eq_true h
theorem right_at {s : List Int} (h : rightS s = true) {i : Nat} (hi : i < s.length) : 0 ≤ s.getD i 0 ∧ s.getD i 0 ≤ 1048576 := (right_all h).1 _ (getD_mem hi)
theorem right_i64 {s : List Int} (h : rightS s = true) : ∀ z ∈ s, I64 z := fun z hz => by have := (right_all h).1 z hz; unfold I64; omega
theorem right_by {s : List Int} {b : Bool} (h1 : ∀ i, i < s.length → 0 ≤ s.getD i 0 ∧ s.getD i 0 ≤ 1048576) (h2 : b = decide (s.length ≤ 6)) : b = rightS s := by
  subst h2
  unfold rightS
  rw [decide_eq_decide]
  refine ⟨fun h => ⟨fun z hz => ?_, h⟩, fun h => h.2⟩
  obtain ⟨i, hi, rfl⟩ := List.getElem_of_mem hz
  have := h1 i hi
  simpa [List.getD, hi] using this
theorem right_not {s : List Int} {i : Nat} (hi : i < s.length) (h : ¬ (0 ≤ s.getD i 0 ∧ s.getD i 0 ≤ 1048576)) : false = rightS s := by
  cases hb : rightS s with
  | false => rfl
  | true => exact absurd (right_at hb hi) h

/-! ### Size -/
def sizeB (s : List Int) (most : Int) : Bool := rightS s && prB (min most 1048576) s
def sizeV (s : List Int) (most : Int) : Int := if sizeB s most = true then prodL s else 0
theorem size_no {s : List Int} {most : Int} (h : sizeB s most = false) : sizeV s most = 0 := by unfold sizeV; rw [h]; rfl
theorem size_yes {s : List Int} {most : Int} (h : sizeB s most = true) : sizeV s most = prodL s := by unfold sizeV; rw [if_pos h]
/-- the whole: all cells of a right shape, as many as there may be. -/
def full (s : List Int) : Bool := sizeB s 1048576
theorem full_all {s : List Int} (h : full s = true) : rightS s = true ∧ prodL s ≤ 1048576 := by
  unfold full sizeB prB at h
  simp only [Bool.and_eq_true, decide_eq_true_eq] at h
  exact ⟨h.1, by have := h.2.2; omega⟩
theorem prod_nonneg {s : List Int} (h : ∀ z ∈ s, 0 ≤ z) : 0 ≤ prodL s := by
  induction s with
  | nil => simp [prodL]
  | cons z s ih => exact Int.mul_nonneg (h z (by simp)) (ih fun y hy => h y (by simp [hy]))
theorem sz_of_right {s : List Int} (h : rightS s = true) {most : Int} (hm : 0 ≤ most) : szB most s = true := by
  unfold szB
  exact decide_eq_true ⟨hm, fun z hz => ((right_all h).1 z hz).1⟩

/-! ### Strides -/
/-- by how much the axis j counts, from the end on. -/
def strE (s : List Int) : Nat → Int
  | 0 => 1
  | j + 1 => strE s j * max 1 (s.getD (s.length - 1 - j) 0)
theorem str_pos (s : List Int) : ∀ j, 1 ≤ strE s j
  | 0 => Int.le_refl _
  | j + 1 => by
    have ih := str_pos s j
    rw [strE]
    have h2 : (1 : Int) ≤ max 1 (s.getD (s.length - 1 - j) 0) := by omega
    have := Int.mul_le_mul ih h2 (by omega) (by omega)
    simpa using this
theorem str_up (s : List Int) (j : Nat) : strE s j ≤ strE s (j + 1) := by
  have h1 := str_pos s j
  have h2 : (1 : Int) ≤ max 1 (s.getD (s.length - 1 - j) 0) := by omega
  have := Int.mul_le_mul_of_nonneg_left h2 (show 0 ≤ strE s j by omega)
  rw [strE]
  simpa using this
theorem str_mono (s : List Int) {i : Nat} : ∀ j, i ≤ j → strE s i ≤ strE s j
  | 0, h => by obtain rfl : i = 0 := by omega
               exact Int.le_refl _
  | j + 1, h => by
    by_cases e : i = j + 1
    · subst e; exact Int.le_refl _
    · exact Int.le_trans (str_mono s j (by omega)) (str_up s j)
def strB (s : List Int) : Bool := rightS s && decide (strE s (s.length - 1) ≤ 1048576)
def stridesL (s : List Int) : List Int := if strB s then (List.range s.length).map fun i => strE s (s.length - 1 - i) else []

/-! ### places -/
def hasB (s at' : List Int) : Bool := rightS s && decide (at'.length = s.length ∧ ∀ i, i < s.length → 0 ≤ at'.getD i 0 ∧ at'.getD i 0 < s.getD i 0)
theorem has_all {s at' : List Int} (h : hasB s at' = true) : rightS s = true ∧ at'.length = s.length ∧ ∀ i, i < s.length → 0 ≤ at'.getD i 0 ∧ at'.getD i 0 < s.getD i 0 := by
  unfold hasB at h
  simp only [Bool.and_eq_true, decide_eq_true_eq] at h
  exact h
theorem has_by {s at' : List Int} (h1 : rightS s = true) (h2 : at'.length = s.length) (h3 : ∀ i, i < s.length → 0 ≤ at'.getD i 0 ∧ at'.getD i 0 < s.getD i 0) : hasB s at' = true := by
  unfold hasB
  simp only [Bool.and_eq_true, decide_eq_true_eq]
  exact ⟨h1, h2, h3⟩
theorem has_not {s at' : List Int} (h : ¬ (rightS s = true ∧ at'.length = s.length ∧ ∀ i, i < s.length → 0 ≤ at'.getD i 0 ∧ at'.getD i 0 < s.getD i 0)) : hasB s at' = false := by
  cases hb : hasB s at' with
  | false => rfl
  | true => exact absurd (has_all hb) h
def hornE (s at' : List Int) : Nat → Int
  | 0 => 0
  | k + 1 => hornE s at' k * s.getD k 0 + at'.getD k 0
theorem horn_in {s at' : List Int} (h : ∀ i, i < s.length → 0 ≤ at'.getD i 0 ∧ at'.getD i 0 < s.getD i 0) : ∀ k, k ≤ s.length → 0 ≤ hornE s at' k ∧ hornE s at' k < prodL (s.take k)
  | 0, _ => by simp [hornE, prodL]
  | k + 1, hk => by
    have ih := horn_in h k (by omega)
    have hh := h k (by omega)
    rw [prodL_take s k (by omega), hornE]
    generalize hornE s at' k = x at *
    generalize prodL (s.take k) = P at *
    generalize s.getD k 0 = z at *
    generalize at'.getD k 0 = y at *
    have h1 := Int.mul_nonneg ih.1 (show 0 ≤ z by omega)
    have h2 := Int.mul_le_mul_of_nonneg_right (show x + 1 ≤ P by omega) (show 0 ≤ z by omega)
    rw [Int.add_mul, Int.one_mul] at h2
    omega
def placeB (s at' : List Int) : Bool := full s && hasB s at'
def placeV (s at' : List Int) : Int := if placeB s at' = true then hornE s at' s.length else 0
theorem place_no {s at' : List Int} (h : placeB s at' = false) : placeV s at' = 0 := by unfold placeV; rw [h]; rfl
theorem place_yes {s at' : List Int} (h : placeB s at' = true) : placeV s at' = hornE s at' s.length := by unfold placeV; rw [if_pos h]
theorem place_in {s at' : List Int} (h : placeB s at' = true) : 0 ≤ placeV s at' ∧ placeV s at' < prodL s := by
  rw [place_yes h]
  unfold placeB at h
  simp only [Bool.and_eq_true] at h
  have := horn_in (has_all h.2).2.2 s.length (Nat.le_refl _)
  rw [List.take_of_length_le (Nat.le_refl _)] at this
  exact this
/-- what is left of a count, the last j axes gone. -/
def restE (s : List Int) (p : Int) : Nat → Int
  | 0 => p
  | j + 1 => restE s p j / s.getD (s.length - 1 - j) 0
def digE (s : List Int) (p : Int) (i : Nat) : Int := restE s p (s.length - 1 - i) % s.getD i 0
def atB (s : List Int) (p : Int) : Bool := full s && decide (0 ≤ p ∧ p < prodL s)
def atL (s : List Int) (p : Int) : List Int := if atB s p then (List.range s.length).map (digE s p) else []
theorem at_all {s : List Int} {p : Int} (h : atB s p = true) : full s = true ∧ 0 ≤ p ∧ p < prodL s := by
  unfold atB at h
  simp only [Bool.and_eq_true, decide_eq_true_eq] at h
  exact h
/-- where there is a count below the size, each length is at least 1. -/
theorem at_ones {s : List Int} {p : Int} (h : atB s p = true) : ∀ z ∈ s, 1 ≤ z := fun z hz => by
  obtain ⟨h1, h2, h3⟩ := at_all h
  have := ((right_all (full_all h1).1).1 z hz).1
  by_cases e : z = 0
  · subst e
    have := prodL_zero hz
    omega
  · omega
theorem atL_get {s : List Int} {p : Int} (h : atB s p = true) {i : Nat} (hi : i < s.length) : (atL s p).getD i 0 = digE s p i := by
  unfold atL
  rw [if_pos h]
  simp [List.getD, hi]
theorem atL_length {s : List Int} {p : Int} (h : atB s p = true) : (atL s p).length = s.length := by
  unfold atL
  rw [if_pos h]
  simp
theorem rest_in {s : List Int} {p : Int} (h1 : ∀ z ∈ s, 1 ≤ z) (h0 : 0 ≤ p) (hp : p < prodL s) : ∀ j, j ≤ s.length → 0 ≤ restE s p j ∧ restE s p j < prodL (s.take (s.length - j))
  | 0, _ => by rw [Nat.sub_zero, List.take_of_length_le (Nat.le_refl _)]; exact ⟨h0, hp⟩
  | j + 1, hj => by
    have ih := rest_in h1 h0 hp j (by omega)
    have hz := getD_one h1 (k := s.length - 1 - j) (by omega)
    have e : s.length - j = s.length - 1 - j + 1 := by omega
    rw [e, prodL_take s (s.length - 1 - j) (by omega)] at ih
    rw [restE, show s.length - (j + 1) = s.length - 1 - j by omega]
    generalize restE s p j = x at *
    generalize s.getD (s.length - 1 - j) 0 = z at *
    generalize prodL (s.take (s.length - 1 - j)) = P at *
    exact ⟨Int.ediv_nonneg ih.1 (by omega), Int.ediv_lt_of_lt_mul (by omega) ih.2⟩
/-- P704: the place of a count has that count. -/
theorem place_of_at {s : List Int} {p : Int} (h : atB s p = true) : placeB s (atL s p) = true ∧ placeV s (atL s p) = p := by
  have hall := at_all h
  have h1 := at_ones h
  have hl := atL_length h
  have hg := fun i hi => atL_get h (i := i) hi
  have hhas : hasB s (atL s p) = true := has_by (full_all hall.1).1 hl (fun i hi => by
    rw [hg i hi]
    have hz := getD_one h1 hi
    unfold digE
    exact ⟨Int.emod_nonneg _ (by omega), Int.emod_lt_of_pos _ (by omega)⟩)
  have hp : placeB s (atL s p) = true := by unfold placeB; rw [hall.1, hhas]; rfl
  refine ⟨hp, ?_⟩
  rw [place_yes hp]
  have key : ∀ k, k ≤ s.length → hornE s (atL s p) k = restE s p (s.length - k) := by
    intro k
    induction k with
    | zero =>
      intro _
      have hr := rest_in h1 hall.2.1 hall.2.2 s.length (Nat.le_refl _)
      rw [Nat.sub_self, List.take_zero] at hr
      simp only [prodL] at hr
      rw [Nat.sub_zero, hornE]
      omega
    | succ k ih =>
      intro hk
      have ih := ih (by omega)
      rw [hornE, ih, hg k (by omega), digE, show s.length - k = (s.length - 1 - k) + 1 by omega, restE, show s.length - 1 - (s.length - 1 - k) = k by omega, show s.length - (k + 1) = s.length - 1 - k by omega]
      rw [Int.mul_comm]
      exact Int.mul_ediv_add_emod _ _
  rw [key s.length (Nat.le_refl _), Nat.sub_self]
  rfl
/-- P704: the count of a place has that place. -/
theorem at_of_place {s at' : List Int} (h : placeB s at' = true) : atB s (placeV s at') = true ∧ atL s (placeV s at') = at' := by
  have hin := place_in h
  have hfu : full s = true := by unfold placeB at h; simp only [Bool.and_eq_true] at h; exact h.1
  have hhas : hasB s at' = true := by unfold placeB at h; simp only [Bool.and_eq_true] at h; exact h.2
  have ha : atB s (placeV s at') = true := by
    unfold atB
    simp only [Bool.and_eq_true, decide_eq_true_eq]
    exact ⟨hfu, hin⟩
  refine ⟨ha, ?_⟩
  obtain ⟨_, hl, hb⟩ := has_all hhas
  have key : ∀ j, j ≤ s.length → restE s (placeV s at') j = hornE s at' (s.length - j) := by
    intro j
    induction j with
    | zero => intro _; rw [Nat.sub_zero, restE, place_yes h]
    | succ j ih =>
      intro hj
      rw [restE, ih (by omega), show s.length - j = (s.length - (j + 1)) + 1 by omega, hornE, show s.length - 1 - j = s.length - (j + 1) by omega]
      have := hb (s.length - (j + 1)) (by omega)
      generalize hornE s at' (s.length - (j + 1)) = x at *
      generalize s.getD (s.length - (j + 1)) 0 = z at *
      generalize at'.getD (s.length - (j + 1)) 0 = y at *
      rw [Int.mul_comm, Int.add_comm, Int.add_mul_ediv_left _ _ (by omega), Int.ediv_eq_zero_of_lt this.1 this.2]
      omega
  apply List.ext_getElem
  · rw [atL_length ha, hl]
  · intro i h1 h2
    have hi : i < s.length := by rw [atL_length ha] at h1; exact h1
    have e1 := atL_get ha hi
    have e2 : at'.getD i 0 = at'[i] := by simp [List.getD, h2]
    have e3 : (atL s (placeV s at')).getD i 0 = (atL s (placeV s at'))[i] := by simp [List.getD, h1]
    rw [← e3, ← e2, e1, digE, key _ (by omega), show s.length - (s.length - 1 - i) = i + 1 by omega, hornE]
    have := hb i hi
    generalize hornE s at' i = x at *
    generalize s.getD i 0 = z at *
    generalize at'.getD i 0 = y at *
    rw [Int.add_comm, Int.add_mul_emod_self_right]
    exact Int.emod_eq_of_lt this.1 this.2

/-! ### other shapes -/
def withoutB (s : List Int) (axis : Int) : Bool := rightS s && decide (0 ≤ axis ∧ axis < s.length)
def withoutL (s : List Int) (axis : Int) : List Int := if withoutB s axis then s.take axis.toNat ++ s.drop (axis.toNat + 1) else []
def withB (s : List Int) (axis n : Int) : Bool := rightS s && decide (0 ≤ axis ∧ axis ≤ s.length ∧ 0 ≤ n ∧ n ≤ 1048576 ∧ s.length < 6)
def withL (s : List Int) (axis n : Int) : List Int := if withB s axis n then s.take axis.toNat ++ [n] ++ s.drop axis.toNat else []
def axesP (n : Nat) (axes : List Int) (k : Nat) : Prop := ∀ i, i < k → (0 ≤ axes.getD i 0 ∧ axes.getD i 0 < n) ∧ ∀ j, j < i → axes.getD j 0 ≠ axes.getD i 0
instance (n : Nat) (axes : List Int) (k : Nat) : Decidable (axesP n axes k) := by unfold axesP; infer_instance
def permB (s axes : List Int) : Bool := rightS s && decide (axes.length = s.length) && decide (axesP s.length axes s.length)
def permL (s axes : List Int) : List Int := if permB s axes then axes.map fun a => s.getD a.toNat 0 else []
def joinP (a b : List Int) (k : Nat) : Prop := ∀ i, i < k → a.getD i 0 = b.getD i 0 ∨ b.getD i 0 = 1 ∨ a.getD i 0 = 1
instance (a b : List Int) (k : Nat) : Decidable (joinP a b k) := by unfold joinP; infer_instance
def joinB (a b : List Int) : Bool := rightS a && rightS b && decide (a.length = b.length) && decide (joinP a b a.length)
def joinV (x y : Int) : Int := if x = y ∨ y = 1 then x else y
def joinL (a b : List Int) : List Int := if joinB a b then (List.range a.length).map fun i => joinV (a.getD i 0) (b.getD i 0) else []
end Go.Proofs.Ytkpfhjjojchdlaa
