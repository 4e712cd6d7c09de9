/-
  Layer 4: runs that double. Plain: nothing of a program.
-/
import Derived.Test.YtffobpbpdnamnaaMergeC4
namespace Go.Proofs.Ytffobpbpdnamnaa
open Go.ChangeShapes Go.WideShapes Go.ChangeAt Go.RowKit
set_option linter.unusedVariables false

/-- the lesser of two places, as a plain choice. -/
def lo (a n : Nat) : Nat := if a ≤ n then a else n
theorem lo_le (a n : Nat) : lo a n ≤ n := by unfold lo; split <;> omega
theorem lo_left {a n : Nat} (h : a ≤ n) : lo a n = a := by unfold lo; rw [if_pos h]
theorem lo_right {a n : Nat} (h : n ≤ a) : lo a n = n := by unfold lo; split <;> omega
/-- the pieces of W places each are in order. -/
def Runs (f : Nat → Int) (n W : Nat) (row : List Nat) : Prop := ∀ a, W ∣ a → a < n → Seg f a (lo (a + W) n) (piece row a (lo (a + W) n))
/-- .. ahead of place t the pieces of 2 W each, from there on those of W each. -/
def Half (f : Nat → Int) (n W t : Nat) (row : List Nat) : Prop :=
  (∀ a, 2 * W ∣ a → a < t → a < n → Seg f a (lo (a + 2 * W) n) (piece row a (lo (a + 2 * W) n))) ∧ ∀ a, W ∣ a → t ≤ a → a < n → Seg f a (lo (a + W) n) (piece row a (lo (a + W) n))
theorem runs_one (f : Nat → Int) (n : Nat) : Runs f n 1 (List.range n) := by
  intro a _ ha
  rw [lo_left (by omega)]
  have e : piece (List.range n) a (a + 1) = [a] := by
    apply List.ext_getElem?
    intro i
    rw [piece_get]
    by_cases h : i < a + 1 - a
    · obtain rfl : i = 0 := by omega
      rw [if_pos h]
      simp [ha]
    · rw [if_neg h, List.getElem?_eq_none (by simp; omega)]
  rw [e]
  exact Seg.one f a
theorem Runs.half {f : Nat → Int} {n W : Nat} {row : List Nat} (h : Runs f n W row) : Half f n W 0 row := ⟨fun a _ h0 => absurd h0 (by omega), fun a hd _ ha => h a hd ha⟩
theorem Half.runs {f : Nat → Int} {n W t : Nat} {row : List Nat} (h : Half f n W t row) (hW : 0 < W) (hd : 2 * W ∣ t) (ht : n ≤ t + W) : Runs f n (2 * W) row := by
  intro a ha hn
  rcases Nat.lt_or_ge a t with h1 | h1
  · exact h.1 a ha h1 hn
  · have e : a = t := by
      have h2 : 2 * W ∣ a - t := Nat.dvd_sub ha hd
      rcases Nat.eq_zero_or_pos (a - t) with h3 | h3
      · omega
      · have := Nat.le_of_dvd h3 h2
        omega
    subst e
    have h2 := h.2 a (Nat.dvd_trans ⟨2, by omega⟩ ha) (Nat.le_refl _) hn
    rw [lo_right (by omega)] at h2
    rw [lo_right (by omega)]
    exact h2
theorem Half.next {f : Nat → Int} {n W t : Nat} {row row' : List Nat} (h : Half f n W t row) (hW : 0 < W) (hd : 2 * W ∣ t) (hs : Seg f t (lo (t + 2 * W) n) (piece row' t (lo (t + 2 * W) n)))
    (ho : ∀ x y, y ≤ t ∨ lo (t + 2 * W) n ≤ x → piece row' x y = piece row x y) : Half f n W (t + 2 * W) row' := by
  refine ⟨fun a ha h1 hn => ?_, fun a ha h1 hn => ?_⟩
  · rcases Nat.lt_or_ge a t with h2 | h2
    · have h3 : a + 2 * W ≤ t := by
        have h4 : 2 * W ∣ t - a := Nat.dvd_sub hd ha
        have := Nat.le_of_dvd (by omega) h4
        omega
      rw [ho a _ (.inl (by unfold lo; split <;> omega))]
      exact h.1 a ha h2 hn
    · have e : a = t := by
        have h4 : 2 * W ∣ a - t := Nat.dvd_sub ha hd
        rcases Nat.eq_zero_or_pos (a - t) with h5 | h5
        · omega
        · have := Nat.le_of_dvd h5 h4
          omega
      subst e
      exact hs
  · rw [ho a _ (.inr (by unfold lo; split <;> omega))]
    exact h.2 a ha (by omega) hn
theorem Runs.all {f : Nat → Int} {n W : Nat} {row : List Nat} (h : Runs f n W row) (hl : row.length = n) (hW : n ≤ W) : InOrder f n row := by
  rcases Nat.eq_zero_or_pos n with h0 | h0
  · subst h0
    obtain rfl : row = [] := List.eq_nil_of_length_eq_zero hl
    exact InOrder.none f
  · have h1 := h 0 (Nat.dvd_zero _) h0
    rw [Nat.zero_add, lo_right hW] at h1
    have e : piece row 0 n = row := by rw [← hl]; exact piece_all row
    rw [e] at h1
    exact h1.inOrder
theorem placesI_range (n : Nat) : placesI (List.range n) = tabI n fun j => (j : Int) := rfl
end Go.Proofs.Ytffobpbpdnamnaa
