/-
  Layer 4: ranks along the order. Plain: nothing of a program.
-/
import Derived.Test.YtffobpbpdnamnaaRef4f
namespace Go.Proofs.Ytffobpbpdnamnaa
open Go.ChangeShapes Go.WideShapes Go.ChangeAt Go.RowKit
set_option linter.unusedVariables false

theorem frst_true {l : List Int} {k : Nat} : ∀ {z : Nat}, frst l k z = true ↔ ∀ t, t < z → l.getD t 0 ≠ l.getD k 0
  | 0 => ⟨fun _ t ht => absurd ht (by omega), fun _ => rfl⟩
  | z + 1 => by
    have h : frst l k (z + 1) = (frst l k z && (l.getD z 0 != l.getD k 0)) := rfl
    rw [h, Bool.and_eq_true, frst_true (z := z), bne_iff_ne]
    constructor
    · rintro ⟨h1, h2⟩ t ht
      by_cases e : t = z
      · subst e; exact h2
      · exact h1 t (by omega)
    · intro h1
      exact ⟨fun t ht => h1 t (by omega), h1 z (by omega)⟩
/-- does v stand among the first k? -/
def oc (l : List Int) (v : Int) : Nat → Nat
  | 0 => 0
  | k + 1 => if l.getD k 0 = v then 1 else oc l v k
theorem oc_one {l : List Int} {v : Int} : ∀ {k i : Nat}, i < k → l.getD i 0 = v → oc l v k = 1
  | 0, i, hi, _ => absurd hi (by omega)
  | k + 1, i, hi, e => by
    unfold oc
    by_cases h : l.getD k 0 = v
    · rw [if_pos h]
    · rw [if_neg h]
      have : i ≠ k := fun e2 => h (by rw [← e2]; exact e)
      exact oc_one (show i < k by omega) e
theorem oc_cases (l : List Int) (v : Int) : ∀ k, (oc l v k = 0 ∧ ∀ i, i < k → l.getD i 0 ≠ v) ∨ (oc l v k = 1 ∧ ∃ i, i < k ∧ l.getD i 0 = v)
  | 0 => .inl ⟨rfl, fun i hi => absurd hi (by omega)⟩
  | k + 1 => by
    unfold oc
    by_cases h : l.getD k 0 = v
    · rw [if_pos h]; exact .inr ⟨rfl, k, by omega, h⟩
    · rw [if_neg h]
      rcases oc_cases l v k with ⟨h1, h2⟩ | ⟨h1, i, hi, h2⟩
      · refine .inl ⟨h1, fun i hi => ?_⟩
        by_cases e : i = k
        · subst e; exact h
        · exact h2 i (by omega)
      · exact .inr ⟨h1, i, by omega, h2⟩
/-- the next greater number has one kind more ahead of it. -/
theorem rk_next {l : List Int} {v v' : Int} (hv : v < v') : ∀ k, (∀ i, i < k → l.getD i 0 < v' → l.getD i 0 ≤ v) → rk l v' k = rk l v k + oc l v k
  | 0, _ => rfl
  | k + 1, h => by
    have ih := rk_next hv k (fun i hi => h i (by omega))
    have hk := h k (by omega)
    by_cases h1 : l.getD k 0 = v
    · have e : oc l v (k + 1) = 1 := by unfold oc; rw [if_pos h1]
      have e2 : rk l v (k + 1) = rk l v k := rk_stay (.inr (by omega))
      rw [e, e2]
      rcases oc_cases l v k with ⟨e3, h3⟩ | ⟨e3, i, hi, h3⟩
      · rw [rk_up (frst_true.2 fun t ht => by rw [h1]; exact h3 t ht) (by omega), ih, e3]
      · rw [rk_stay (.inl (by
          cases hb : frst l k k
          · rfl
          · exact absurd (h3.trans h1.symm) (frst_true.1 hb i hi))), ih, e3]
    · have e : oc l v (k + 1) = oc l v k := by
        show (if l.getD k 0 = v then 1 else oc l v k) = _
        rw [if_neg h1]
      rw [e]
      by_cases h2 : l.getD k 0 < v
      · cases hb : frst l k k
        · rw [rk_stay (.inl hb), rk_stay (.inl hb), ih]
        · rw [rk_up hb (by omega), rk_up hb h2, ih]; omega
      · rw [rk_stay (.inr (by omega)), rk_stay (.inr h2), ih]
theorem rk_least {l : List Int} {v : Int} : ∀ k, (∀ i, i < k → v ≤ l.getD i 0) → rk l v k = 0
  | 0, _ => rfl
  | k + 1, h => by rw [rk_stay (.inr (by have := h k (by omega); omega)), rk_least k fun i hi => h i (by omega)]

/-! ### along the order -/
section
variable {l : List Int} {p : List Nat}
theorem order_all (h : InOrder (valI l) l.length p) {x i : Nat} (hx : x < l.length) (hi : i < l.length) : (∃ j, j ≤ x ∧ p.getD j 0 = i ∧ l.getD i 0 ≤ l.getD (p.getD x 0) 0) ∨ ∃ j, x < j ∧ j < l.length ∧ p.getD j 0 = i ∧ l.getD (p.getD x 0) 0 ≤ l.getD i 0 := by
  obtain ⟨j, hj, e⟩ := h.has hi
  rcases Nat.lt_trichotomy j x with h1 | h1 | h1
  · have := h.ahead h1 hx
    rw [e] at this
    unfold Ahead valI at this
    exact .inl ⟨j, by omega, e, by omega⟩
  · subst h1; rw [e]; exact .inl ⟨j, by omega, e, Int.le_refl _⟩
  · have := h.ahead h1 hj
    rw [e] at this
    unfold Ahead valI at this
    exact .inr ⟨j, h1, hj, e, by omega⟩
theorem rank_first (h : InOrder (valI l) l.length p) (h0 : 0 < l.length) : rk l (l.getD (p.getD 0 0) 0) l.length = 0 :=
  rk_least _ fun i hi => by
    rcases order_all h h0 hi with ⟨j, hj, e, _⟩ | ⟨j, _, _, _, h1⟩
    · obtain rfl : j = 0 := by omega
      rw [e]; exact Int.le_refl _
    · exact h1
theorem rank_next (h : InOrder (valI l) l.length p) {x : Nat} (hx : x + 1 < l.length) (hne : l.getD (p.getD x 0) 0 ≠ l.getD (p.getD (x + 1) 0) 0) :
    rk l (l.getD (p.getD (x + 1) 0) 0) l.length = rk l (l.getD (p.getD x 0) 0) l.length + 1 := by
  have h1 := h.ahead (show x < x + 1 by omega) hx
  unfold Ahead valI at h1
  rw [rk_next (v := l.getD (p.getD x 0) 0) (by omega) _ fun i hi hlt => ?_, oc_one (h.get_lt (by omega)) rfl]
  rcases order_all h (show x < l.length by omega) hi with ⟨j, hj, e, h2⟩ | ⟨j, hj, hjl, e, h2⟩
  · exact h2
  · have : l.getD (p.getD (x + 1) 0) 0 ≤ l.getD i 0 := by
      rcases Nat.eq_or_lt_of_le (show x + 1 ≤ j by omega) with e2 | h3
      · rw [e2, e]; exact Int.le_refl _
      · have := h.ahead h3 hjl
        rw [e] at this
        unfold Ahead valI at this
        omega
    omega
end
/-- what Ranks has laid when it has come to place x of the order. -/
def rankTab (l : List Int) (p : List Nat) (x : Nat) : List Int := tabI l.length fun q => if q ∈ p.take x then (rk l (l.getD q 0) l.length : Int) else 0
theorem rankTab_none (l : List Int) (p : List Nat) : rankTab l p 0 = tabI l.length fun _ => 0 := tabI_congr fun i _ => by simp
theorem take_snoc_nat {p : List Nat} {x : Nat} (h : x < p.length) : p.take (x + 1) = p.take x ++ [p.getD x 0] := by
  rw [List.take_succ_eq_append_getElem h]
  simp [List.getD, h]
theorem rankTab_set {l : List Int} {p : List Nat} {x : Nat} (h : x < p.length) : (rankTab l p x).set (p.getD x 0) (rk l (l.getD (p.getD x 0) 0) l.length : Int) = rankTab l p (x + 1) := by
  unfold rankTab
  rw [tabI_set]
  refine tabI_congr fun q hq => ?_
  rw [take_snoc_nat h]
  by_cases e : q = p.getD x 0
  · subst e
    rw [if_pos rfl, if_pos (by simp)]
  · rw [if_neg e]
    by_cases h2 : q ∈ p.take x
    · rw [if_pos h2, if_pos (List.mem_append_left _ h2)]
    · rw [if_neg h2, if_neg (by rw [List.mem_append, List.mem_singleton]; rintro (h3 | h3) <;> first | exact h2 h3 | exact e h3)]
theorem rankTab_all {l : List Int} {p : List Nat} (h : InOrder (valI l) l.length p) : rankTab l p l.length = ranksE l := by
  unfold rankTab ranksE
  refine tabI_congr fun q hq => ?_
  have hl := h.length
  rw [List.take_of_length_le (by omega), if_pos ((h.2 q).2 hq)]
end Go.Proofs.Ytffobpbpdnamnaa
