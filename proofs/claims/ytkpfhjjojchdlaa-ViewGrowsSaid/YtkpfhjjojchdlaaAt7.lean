/-
  Layer 7, the program's own: Place, At.
-/
import Derived.Test.YtkpfhjjojchdlaaStr7
namespace Go.Proofs.Ytkpfhjjojchdlaa
open Go.ChangeShapes Go.WideShapes Go.ChangeAt Go.RowKit
set_option linter.unusedVariables false
set_option maxRecDepth 100000

/-! ### strides of shapes whose lengths are all at least 1 -/
theorem str_whole {s : List Int} (h : ∀ z ∈ s, 1 ≤ z) : ∀ j, j ≤ s.length → strE s j * prodL (s.take (s.length - j)) = prodL s
  | 0, _ => by rw [strE, Nat.sub_zero, List.take_of_length_le (Nat.le_refl _), Int.one_mul]
  | j + 1, hj => by
    have ih := str_whole h j (by omega)
    have hz := getD_one h (k := s.length - 1 - j) (by omega)
    have e : s.length - j = s.length - 1 - j + 1 := by omega
    rw [e, prodL_take s (s.length - 1 - j) (by omega)] at ih
    rw [strE, show s.length - (j + 1) = s.length - 1 - j by omega, show max 1 (s.getD (s.length - 1 - j) 0) = s.getD (s.length - 1 - j) 0 by omega, ← ih, Int.mul_assoc, Int.mul_comm (s.getD _ _)]
theorem str_le {s : List Int} (h : ∀ z ∈ s, 1 ≤ z) (hp : prodL s ≤ 1048576) {j : Nat} (hj : j ≤ s.length) : strE s j ≤ 1048576 := by
  have h1 := str_whole h j hj
  have h2 := prodL_pos (zs := s.take (s.length - j)) fun z hz => h z (List.mem_of_mem_take hz)
  have h3 := str_pos s j
  have h4 := Int.mul_le_mul_of_nonneg_left h2 (show 0 ≤ strE s j by omega)
  rw [Int.mul_one, h1] at h4
  omega
theorem str_full {s : List Int} (hf : full s = true) (h : ∀ z ∈ s, 1 ≤ z) : strB s = true := by
  unfold strB
  rw [(full_all hf).1]
  exact decide_eq_true (str_le h (full_all hf).2 (by omega))
theorem str_tab {s : List Int} {n : Nat} (hn : s.length = n) (hb : strB s = true) : stridesL s = tabI7 n fun j => strE s (n - 1 - j) := by
  subst hn; unfold stridesL; rw [if_pos hb]; rfl
theorem str_step {s : List Int} (h : ∀ z ∈ s, 1 ≤ z) {k : Nat} (hk : k < s.length) : strE s (s.length - k) = strE s (s.length - 1 - k) * s.getD k 0 := by
  have hz := getD_one h hk
  rw [show s.length - k = s.length - 1 - k + 1 by omega, strE, show s.length - 1 - (s.length - 1 - k) = k by omega, show max 1 (s.getD k 0) = s.getD k 0 by omega]
/-! ### Place -/
def sumE (s t : List Int) (n k : Nat) : Int := hornE s t k * strE s (n - k)
theorem sum_step {s t : List Int} {n : Nat} (hn : s.length = n) (h : ∀ z ∈ s, 1 ≤ z) {k : Nat} (hk : k < n) : sumE s t n (k + 1) = sumE s t n k + t.getD k 0 * strE s (n - 1 - k) := by
  subst hn
  unfold sumE
  rw [hornE, str_step h hk, show s.length - (k + 1) = s.length - 1 - k by omega, Int.add_mul, Int.mul_assoc, Int.mul_comm (s.getD k 0)]
theorem sum_in {s t : List Int} {n : Nat} (hn : s.length = n) (h : ∀ z ∈ s, 1 ≤ z) (hp : prodL s ≤ 1048576) (hh : ∀ i, i < s.length → 0 ≤ t.getD i 0 ∧ t.getD i 0 < s.getD i 0) {k : Nat} (hk : k ≤ n) : 0 ≤ sumE s t n k ∧ sumE s t n k ≤ 1099511627776 := by
  subst hn
  have h1 := horn_in hh k hk
  have h2 := prodL_mono s k h
  have h3 := str_pos s (s.length - k)
  have h4 := str_le h hp (j := s.length - k) (by omega)
  unfold sumE
  refine ⟨Int.mul_nonneg h1.1 (by omega), ?_⟩
  have := Int.mul_le_mul (show hornE s t k ≤ 1048576 by omega) h4 (by omega) (by omega)
  omega
theorem sum_term {s t : List Int} {n : Nat} (hn : s.length = n) (h : ∀ z ∈ s, 1 ≤ z) (hp : prodL s ≤ 1048576) (hh : ∀ i, i < s.length → 0 ≤ t.getD i 0 ∧ t.getD i 0 < s.getD i 0) {k : Nat} (hk : k < n) : 0 ≤ t.getD k 0 * strE s (n - 1 - k) ∧ t.getD k 0 * strE s (n - 1 - k) ≤ 1099511627776 := by
  subst hn
  have h1 := hh k hk
  have h2 : s.getD k 0 ≤ prodL s := by
    have a := prodL_mono s (k + 1) h
    rw [prodL_take s k hk] at a
    have b := prodL_pos (zs := s.take k) fun z hz => h z (List.mem_of_mem_take hz)
    have c := Int.mul_le_mul_of_nonneg_right b (show 0 ≤ s.getD k 0 by omega)
    rw [Int.one_mul] at c
    omega
  have h3 := str_pos s (s.length - 1 - k)
  have h4 := str_le h hp (j := s.length - 1 - k) (by omega)
  refine ⟨Int.mul_nonneg h1.1 (by omega), ?_⟩
  have := Int.mul_le_mul (show t.getD k 0 ≤ 1048576 by omega) h4 (by omega) (by omega)
  omega
theorem sum_end (s t : List Int) (n : Nat) : sumE s t n n = hornE s t n := by unfold sumE; rw [Nat.sub_self, strE, Int.mul_one]
theorem has_ones {s t : List Int} (h : ∀ i, i < s.length → 0 ≤ t.getD i 0 ∧ t.getD i 0 < s.getD i 0) : ∀ z ∈ s, 1 ≤ z := fun z hz => by
  obtain ⟨i, hi, rfl⟩ := List.getElem_of_mem hz
  have := h i hi
  simp [List.getD, hi] at this
  omega
theorem tellG_two {x y : Int} {a b : Bool} {w w' : World} (h1 : x = y) (h2 : a = b) (hw : w.grownBy w' none) : TellG (.tuple #[.int .i64 y, .bool b]) w (.returned (.tuple #[.int .i64 x, .bool a])) w' := by
  subst h1; subst h2; exact ⟨rfl, hw⟩
/-! ### At -/
theorem mod_div (p a b : Int) (ha : 0 < a) (hb : 0 < b) : p % (a * b) / a = p / a % b := by
  have h1 : p / (a * b) = p / a / b := (Int.ediv_ediv_of_nonneg (show 0 ≤ a by omega)).symm
  have h2 := Int.mul_ediv_add_emod p (a * b)
  have h3 := Int.mul_ediv_add_emod (p / a) b
  have h4 := Int.mul_ediv_add_emod p a
  have h5 : p % (a * b) = p % a + a * (p / a % b) := by
    rw [h1, Int.mul_assoc] at h2
    have e : a * (b * (p / a / b) + p / a % b) = a * (p / a) := by rw [h3]
    rw [Int.mul_add] at e
    generalize a * (b * (p / a / b)) = X at *
    generalize a * (p / a % b) = Y at *
    generalize a * (p / a) = Z at *
    omega
  rw [h5, Int.add_mul_ediv_left _ _ (by omega), Int.ediv_eq_zero_of_lt (Int.emod_nonneg _ (by omega)) (Int.emod_lt_of_pos _ ha), Int.zero_add]
theorem rest_div {s : List Int} (h : ∀ z ∈ s, 1 ≤ z) (p : Int) : ∀ j, j ≤ s.length → restE s p j = p / strE s j
  | 0, _ => by rw [restE, strE, Int.ediv_one]
  | j + 1, hj => by
    have hz := getD_one h (k := s.length - 1 - j) (by omega)
    have hp := str_pos s j
    rw [restE, rest_div h p j (by omega), strE, show max 1 (s.getD (s.length - 1 - j) 0) = s.getD (s.length - 1 - j) 0 by omega, Int.ediv_ediv_of_nonneg (by omega)]
/-- what is left of the count ahead of axis k. -/
def leftE (s : List Int) (p : Int) (n k : Nat) : Int := p % strE s (n - k)
theorem left_start {s : List Int} {p : Int} {n : Nat} (hn : s.length = n) (h : ∀ z ∈ s, 1 ≤ z) (h0 : 0 ≤ p) (hp : p < prodL s) : leftE s p n 0 = p := by
  subst hn
  have := str_whole h s.length (Nat.le_refl _)
  rw [Nat.sub_self, List.take_zero, show prodL [] = 1 from rfl, Int.mul_one] at this
  unfold leftE
  rw [Nat.sub_zero, this]
  exact Int.emod_eq_of_lt h0 hp
theorem left_step {s : List Int} {p : Int} {n : Nat} (hn : s.length = n) (h : ∀ z ∈ s, 1 ≤ z) {k : Nat} (hk : k < n) : leftE s p n k % strE s (n - 1 - k) = leftE s p n (k + 1) := by
  subst hn
  unfold leftE
  rw [str_step h hk, show s.length - (k + 1) = s.length - 1 - k by omega]
  exact Int.emod_emod_of_dvd _ (Int.dvd_mul_right _ _)
theorem left_dig {s : List Int} {p : Int} {n : Nat} (hn : s.length = n) (h : ∀ z ∈ s, 1 ≤ z) {k : Nat} (hk : k < n) : leftE s p n k / strE s (n - 1 - k) = digE s p k := by
  subst hn
  have hz := getD_one h hk
  have hp := str_pos s (s.length - 1 - k)
  unfold leftE digE
  rw [str_step h hk, mod_div _ _ _ (by omega) (by omega), rest_div h p _ (by omega)]
theorem left_in {s : List Int} {p : Int} {n : Nat} (hn : s.length = n) (h : ∀ z ∈ s, 1 ≤ z) (hp : prodL s ≤ 1048576) {k : Nat} (hk : k ≤ n) : 0 ≤ leftE s p n k ∧ leftE s p n k < 1048576 := by
  subst hn
  have h1 := str_pos s (s.length - k)
  have h2 := str_le h hp (j := s.length - k) (by omega)
  unfold leftE
  have := Int.emod_lt_of_pos p (show 0 < strE s (s.length - k) by omega)
  exact ⟨Int.emod_nonneg _ (by omega), by omega⟩
/-- the row behind k rounds: places ahead of k, strides from k on. -/
def mixE (s : List Int) (p : Int) (n k : Nat) : List Int := tabI7 n fun j => if j < k then digE s p j else strE s (n - 1 - j)
theorem mix_start (s : List Int) (p : Int) (n : Nat) : (tabI7 n fun j => strE s (n - 1 - j)) = mixE s p n 0 := tabI_congr7 fun i _ => (if_neg (by omega)).symm
theorem mix_get (s : List Int) (p : Int) (n k : Nat) (hk : k < n) : (mixE s p n k).getD k 0 = strE s (n - 1 - k) := by unfold mixE; rw [tabI_get7 _ _ _ hk, if_neg (by omega)]
theorem mix_put (s : List Int) (p : Int) (n k : Nat) : (mixE s p n k).set k (digE s p k) = mixE s p n (k + 1) := by
  unfold mixE
  rw [tabI_set7]
  refine tabI_congr7 fun i hi => ?_
  by_cases e : i = k
  · rw [if_pos e, if_pos (by omega), e]
  · rw [if_neg e]
    by_cases h : i < k
    · rw [if_pos h, if_pos (by omega)]
    · rw [if_neg h, if_neg (by omega)]
theorem mix_end {s : List Int} {p : Int} {n : Nat} (hn : s.length = n) (h : atB s p = true) : mixE s p n n = atL s p := by
  subst hn
  unfold mixE atL
  rw [if_pos h]
  unfold tabI7
  apply List.map_congr_left
  intro i hi
  rw [List.mem_range] at hi
  exact if_pos hi
theorem GaveIntsB.of {zs zs' : List Int} {b b' : Bool} {w w' : World} {A : Option Addr} {n c : Nat} (hz : zs' = zs) (hb : b' = b) (hn : zs.length = n) (ho : OwnI w' w.heap.size A n c zs') (hg : w.grownBy w' none) : GaveIntsB zs b w (.returned (.tuple #[.slice A n c, .bool b'])) w' := by
  subst hz; subst hn; subst hb; exact ⟨A, c, rfl, ho, hg⟩
theorem GaveIntsB.none_ {zs : List Int} {b : Bool} {w w' : World} (hz : zs = []) (hb : b = false) (hg : w.grownBy w' none) : GaveIntsB zs b w (.returned (.tuple #[.slice none 0 0, .bool false])) w' := by
  subst hz; subst hb; exact ⟨none, 0, rfl, OwnI.nil _ _, hg⟩
end Go.Proofs.Ytkpfhjjojchdlaa
