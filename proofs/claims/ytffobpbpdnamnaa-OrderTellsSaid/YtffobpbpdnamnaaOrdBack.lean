/-
  Layer 4: what Back tells of places in order; plain truths, nothing of the program.
-/
import Derived.Test.YtffobpbpdnamnaaRef4d
namespace Go.Proofs.Ytffobpbpdnamnaa
open Go.ChangeShapes Go.WideShapes Go.ChangeAt Go.RowKit
set_option linter.unusedVariables false

/-- places as whole numbers. -/
def placesI (p : List Nat) : List Int := p.map (fun x : Nat => (x : Int))
theorem placesI_length (p : List Nat) : (placesI p).length = p.length := by simp [placesI]
theorem placesI_get {p : List Nat} {i : Nat} (h : i < p.length) : (placesI p).getD i 0 = (p.getD i 0 : Nat) := by simp [placesI, List.getD, h]
theorem good_order {f : Nat → Int} {n : Nat} {p : List Nat} (h : InOrder f n p) : Good (placesI p) p.length := by
  have hl := h.length
  intro i hi
  rw [placesI_get hi, placesI_length]
  have h1 := h.get_lt (i := i) (by omega)
  refine ⟨⟨by omega, by omega⟩, fun j hj e => ?_⟩
  rw [placesI_get (by omega)] at e
  have := h.inj (i := j) (j := i) (by omega) (by omega) (by omega)
  omega
theorem okBack_order {f : Nat → Int} {n : Nat} {p : List Nat} (h : InOrder f n p) : okBack (placesI p) = true :=
  decide_eq_true (by rw [placesI_length]; exact good_order h)
/-- the one place among the first x that holds q. -/
theorem posB_at {ps : List Int} {q j : Nat} : ∀ {x : Nat}, (∀ i, i < x → ∀ k, k < i → ps.getD k 0 ≠ ps.getD i 0) → j < x → ps.getD j 0 = (q : Int) → posB ps x q = (j : Int)
  | 0, _, hj, _ => absurd hj (by omega)
  | x + 1, h, hj, e => by
    unfold posB
    by_cases hx : ps.getD x 0 = (q : Int)
    · rw [if_pos hx]
      by_cases ejx : j = x
      · rw [ejx]
      · exact absurd (e.trans hx.symm) (h x (by omega) j (by omega))
    · rw [if_neg hx]
      have : j ≠ x := fun ejx => hx (by rw [← ejx]; exact e)
      exact posB_at (fun i hi k hk => h i (by omega) k hk) (by omega) e
/-- Back of places in order: at each place, where it stands. -/
theorem back_order {f : Nat → Int} {n : Nat} {p : List Nat} (h : InOrder f n p) {i : Nat} (hi : i < n) : (backE (placesI p)).getD (p.getD i 0) 0 = (i : Int) := by
  have hl := h.length
  have h1 := h.get_lt hi
  unfold backE
  rw [okBack_order h, if_pos rfl, placesI_length, tabI_get _ _ _ (by omega)]
  exact posB_at (fun a ha b hb => (good_order h a ha).2 b hb) (by omega) (placesI_get (by omega))
theorem backE_length {f : Nat → Int} {n : Nat} {p : List Nat} (h : InOrder f n p) : (backE (placesI p)).length = n := by
  unfold backE
  rw [okBack_order h, if_pos rfl, tabI_length, placesI_length, h.length]
/-- what the law asks of two neighbours. -/
theorem order_steps {f : Nat → Int} {n : Nat} {p : List Nat} (h : InOrder f n p) {i : Nat} (h0 : 0 < i) (hi : i < n) :
    ¬ f (p.getD (i - 1) 0) > f (p.getD i 0) ∧ ¬ (f (p.getD (i - 1) 0) = f (p.getD i 0) ∧ p.getD (i - 1) 0 > p.getD i 0) := by
  have := h.ahead (i := i - 1) (j := i) (by omega) hi
  unfold Ahead at this
  omega

/-! ### where a number would stand in a row that rises -/
/-- how many of the first ones are less than x, up to the first that is not. -/
def lowI (x : Int) : List Int → Nat
  | [] => 0
  | a :: l => if a < x then lowI x l + 1 else 0
theorem lowI_le (x : Int) (l : List Int) : lowI x l ≤ l.length := by
  induction l with
  | nil => exact Nat.le_refl _
  | cons a l ih => unfold lowI; split <;> simp only [List.length_cons] <;> omega
theorem lowI_less {x : Int} : ∀ {l : List Int} {i : Nat}, i < lowI x l → l.getD i 0 < x
  | [], i, h => absurd h (by unfold lowI; omega)
  | a :: l, i, h => by
    unfold lowI at h
    by_cases e : a < x
    · rw [if_pos e] at h
      match i, h with
      | 0, _ => exact e
      | i + 1, h => exact lowI_less (l := l) (i := i) (by omega)
    · rw [if_neg e] at h; omega
theorem lowI_stop {x : Int} : ∀ {l : List Int}, lowI x l < l.length → ¬ l.getD (lowI x l) 0 < x
  | [], h => absurd h (by simp)
  | a :: l, h => by
    by_cases e : a < x
    · have e2 : lowI x (a :: l) = lowI x l + 1 := by rw [lowI, if_pos e]
      rw [e2] at h ⊢
      exact lowI_stop (l := l) (by simpa using h)
    · have e2 : lowI x (a :: l) = 0 := by rw [lowI, if_neg e]
      rw [e2]
      exact e
/-- the one place with lesser ones ahead and none of them behind. -/
theorem lowI_one {x : Int} {l : List Int} {k : Nat} (h1 : k ≤ l.length) (h2 : ∀ i, i < k → l.getD i 0 < x) (h3 : k < l.length → ¬ l.getD k 0 < x) : lowI x l = k := by
  have hle := lowI_le x l
  rcases Nat.lt_trichotomy (lowI x l) k with hlt | e | hgt
  · exact absurd (h2 _ hlt) (lowI_stop (by omega))
  · exact e
  · exact absurd (lowI_less hgt) (h3 (by omega))
end Go.Proofs.Ytffobpbpdnamnaa
