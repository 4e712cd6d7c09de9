/-
  THE CONTRACTS OF PACKAGE num AND OF ITS REFERENCE over integers of 64 bits: Div, Mod, Down, Place, Steps.
-/
import Derived.Test.YtkpfhjjojchdlaaRows
import Derived.Test.YtkpfhjjojchdlaaBase
import Derived.WalkKit
import Derived.ProofKit
import Derived.OpenShut
import Derived.Lib.Hide
namespace Go.Proofs.Ytkpfhjjojchdlaa
open Go.ChangeShapes Go.WideShapes Go.ChangeAt Go.RowKit
set_option linter.unusedVariables false

/-- a by b rounded down, as 64 bits hold it; 0 by 0. -/
def dv (a b : Int) : Int := if b = 0 then 0 else wrap64 (a.fdiv b)
/-- what is left of a by b rounded down. -/
def md (a b : Int) : Int := if b = 0 then 0 else a.fmod b

theorem ret_two {k : IntKind} {a b : Int} {c d : Bool} (h : a = b) (g : c = d) : Ending.returned (.tuple #[.int k a, .bool c]) = .returned (.tuple #[.int k b, .bool d]) := by rw [h, g]

theorem fdiv_same (a b : Int) (hb : ¬ b = 0) (h : a.tmod b = 0 ∨ (decide (a < 0) = decide (b < 0))) : a.fdiv b = a.tdiv b := by
  rw [Int.fdiv_eq_tdiv]
  by_cases hd : b ∣ a
  · simp [hd]
  · rcases h with h | h
    · exact absurd (Int.dvd_of_tmod_eq_zero h) hd
    · simp only [hd, if_false]
      by_cases ha : 0 ≤ a
      · have : 0 ≤ b := by
          have h' : decide (a < 0) = false := by simp; omega
          rw [h'] at h; simpa using h.symm
        simp [ha, this]
      · have : ¬ 0 ≤ b := by
          have h' : decide (a < 0) = true := by simp; omega
          rw [h'] at h; have := h.symm; simp at this; omega
        simp only [ha, this, if_false]
        have : b.sign = -1 := Int.sign_eq_neg_one_of_neg (by omega)
        omega
theorem fdiv_less (a b : Int) (hb : ¬ b = 0) (h : ¬ a.tmod b = 0) (g : ¬ decide (a < 0) = decide (b < 0)) : a.fdiv b = a.tdiv b - 1 := by
  rw [Int.fdiv_eq_tdiv]
  have hd : ¬ b ∣ a := fun hd => h (Int.tmod_eq_zero_of_dvd hd)
  simp only [hd, if_false]
  by_cases ha : 0 ≤ a
  · have : ¬ 0 ≤ b := fun hb => g (by have : ¬ a < 0 := by omega
                                      have : ¬ b < 0 := by omega
                                      simp [*])
    simp [ha, this]
  · have : 0 ≤ b := by
      apply Decidable.byContradiction; intro hb
      exact g (by have : a < 0 := by omega
                  have : b < 0 := by omega
                  simp [*])
    have hs : b.sign = 1 := Int.sign_eq_one_of_pos (by omega)
    simp [ha, this, hs]
theorem fmod_of (a b : Int) : a.fmod b = a - b * a.fdiv b := by have := Int.mul_fdiv_add_fmod a b; omega
theorem tmod_of (a b : Int) : a.tmod b = a - b * a.tdiv b := by have := Int.mul_tdiv_add_tmod a b; omega
theorem fmod_same (a b : Int) (hb : ¬ b = 0) (h : a.tmod b = 0 ∨ (decide (a < 0) = decide (b < 0))) : a.fmod b = a.tmod b := by
  rw [fmod_of, tmod_of, fdiv_same a b hb h]
theorem fmod_less (a b : Int) (hb : ¬ b = 0) (h : ¬ a.tmod b = 0) (g : ¬ decide (a < 0) = decide (b < 0)) : a.fmod b = a.tmod b + b := by
  rw [fmod_of, tmod_of, fdiv_less a b hb h g, Int.mul_sub]; omega

theorem wrap64_sub (n k : Int) : wrap64 (wrap64 n - k) = wrap64 (n - k) := by unfold wrap64; omega
theorem wrap64_le (n : Int) (h1 : -9223372036854775808 ≤ n) (h2 : n ≤ 9223372036854775807) : wrap64 n = n := by unfold wrap64; omega

theorem dv_zero (a : Int) : dv a 0 = 0 := rfl
theorem dv_same (a b : Int) (hb : ¬ b = 0) (h : a.tmod b = 0 ∨ (decide (a < 0) = decide (b < 0))) : wrap64 (a.tdiv b) = dv a b := by
  unfold dv; rw [if_neg hb, fdiv_same a b hb h]
theorem dv_less (a b : Int) (hb : ¬ b = 0) (h : ¬ a.tmod b = 0) (g : ¬ decide (a < 0) = decide (b < 0)) : wrap64 (wrap64 (a.tdiv b) - 1) = dv a b := by
  unfold dv; rw [if_neg hb, fdiv_less a b hb h g, wrap64_sub]

theorem parts_yes {t : Int} {x y : Bool} (h : (t != 0) = true ∧ (!x == y) = true) : ¬ x = y := by
  intro e; subst e; simp at h
theorem parts_no {t : Int} {x y : Bool} (h : ¬ t = 0) (g : (t != 0) = false ∨ (!x == y) = false) : t = 0 ∨ x = y := by
  rcases g with g | g
  · exact .inl (by simpa using g)
  · exact .inr (by simpa using g)

theorem md_same (a b : Int) (hb : ¬ b = 0) (h : a.tmod b = 0 ∨ (decide (a < 0) = decide (b < 0))) : a.tmod b = md a b := by
  unfold md; rw [if_neg hb, fmod_same a b hb h]
theorem md_nought (a b : Int) (hb : ¬ b = 0) (h : a.tmod b = 0) : 0 = md a b := by
  rw [← md_same a b hb (.inl h), h]
theorem md_less (a b : Int) (hb : ¬ b = 0) (h : ¬ a.tmod b = 0) (g : ¬ decide (a < 0) = decide (b < 0)) : a.tmod b + b = md a b := by
  unfold md; rw [if_neg hb, fmod_less a b hb h g]

theorem tmod_sign (a b : Int) (h : ¬ a.tmod b = 0) : decide (a.tmod b < 0) = decide (a < 0) := by
  by_cases ha : a < 0
  · have : a.tmod b ≤ 0 := by
      have := Int.tmod_nonneg (a := -a) b (by omega)
      rw [Int.neg_tmod] at this; omega
    have h1 : a.tmod b < 0 := by omega
    simp [ha, h1]
  · have : 0 ≤ a.tmod b := Int.tmod_nonneg b (by omega)
    have h1 : ¬ a.tmod b < 0 := by omega
    simp [ha, h1]
theorem md_between (a b : Int) (hb : ¬ b = 0) : (0 < b → 0 ≤ md a b ∧ md a b < b) ∧ (b < 0 → b < md a b ∧ md a b ≤ 0) := by
  unfold md; rw [if_neg hb]
  constructor
  · intro h; exact ⟨Int.fmod_nonneg_of_pos a h, Int.fmod_lt_of_pos a h⟩
  · intro h
    have h1 := Int.fmod_nonneg_of_pos (-a) (b := -b) (by omega)
    have h2 := Int.fmod_lt_of_pos (-a) (b := -b) (by omega)
    rw [Int.neg_fmod_neg] at h1 h2
    omega
theorem md_i64 (a b : Int) (hb : I64 b) : I64 (md a b) := by
  by_cases h : b = 0
  · subst h; unfold md I64; simp
  · have := md_between a b h
    unfold I64 at *; omega
theorem md_more (a b : Int) (hi : I64 b) (hb : ¬ b = 0) (h : ¬ a.tmod b = 0) (g : ¬ decide (a.tmod b < 0) = decide (b < 0)) : wrap64 (a.tmod b + b) = md a b := by
  rw [md_less a b hb h (by rw [← tmod_sign a b h]; exact g)]
  have := md_i64 a b hi
  exact wrap64_le _ this.1 this.2
theorem md_as (a b : Int) (hb : ¬ b = 0) (h : ¬ a.tmod b = 0) (g : a.tmod b = 0 ∨ decide (a.tmod b < 0) = decide (b < 0)) : a.tmod b = md a b := by
  rw [tmod_sign a b h] at g; exact md_same a b hb g

theorem dv_minus (a b : Int) (h : (b == -1) = true) : wrap64 (-a) = dv a b := by
  have : b = -1 := by simpa using h
  subst this
  have h1 : a.tdiv (-1) = -a := by simp
  rw [← h1]; exact dv_same a (-1) (by omega) (.inl (by simp))
theorem md_minus (a b : Int) (h : (b == -1) = true) : 0 = md a b := by
  have : b = -1 := by simpa using h
  subst this
  exact md_nought a (-1) (by omega) (by simp)

/-- may a be brought down to a multiple of b? -/
def dnB (a b : Int) : Bool := decide (1 ≤ b ∧ -9223372036854775808 + md a b ≤ a)
/-- the greatest multiple of b not above a. -/
def dn (a b : Int) : Int := if dnB a b = true then a - md a b else 0
theorem dn_no (a b : Int) (h : ¬ (1 ≤ b ∧ -9223372036854775808 + md a b ≤ a)) : Ending.returned (.tuple #[.int .i64 0, .bool false]) = .returned (.tuple #[.int .i64 (dn a b), .bool (dnB a b)]) := by
  have h1 : dnB a b = false := by unfold dnB; exact decide_eq_false h
  refine ret_two ?_ h1.symm
  unfold dn; rw [h1]; rfl
theorem dn_few (a b : Int) (h : b < 1) : Ending.returned (.tuple #[.int .i64 0, .bool false]) = .returned (.tuple #[.int .i64 (dn a b), .bool (dnB a b)]) :=
  dn_no a b (by omega)
theorem md_pos (a b : Int) (h : 1 ≤ b) : 0 ≤ md a b ∧ md a b < b := (md_between a b (by omega)).1 (by omega)
theorem dn_low (a b : Int) (hi : I64 b) (hb : 1 ≤ b) (h : a < wrap64 (-9223372036854775808 + md a b)) : Ending.returned (.tuple #[.int .i64 0, .bool false]) = .returned (.tuple #[.int .i64 (dn a b), .bool (dnB a b)]) := by
  have h1 := md_pos a b hb
  unfold I64 at hi
  rw [wrap64_le _ (by omega) (by omega)] at h
  exact dn_no a b (by omega)
theorem dn_yes (a b : Int) (ha : I64 a) (hi : I64 b) (hb : 1 ≤ b) (h : wrap64 (-9223372036854775808 + md a b) ≤ a) : Ending.returned (.tuple #[.int .i64 (wrap64 (a - md a b)), .bool true]) = .returned (.tuple #[.int .i64 (dn a b), .bool (dnB a b)]) := by
  have h1 := md_pos a b hb
  unfold I64 at hi ha
  rw [wrap64_le _ (by omega) (by omega)] at h
  have h2 : dnB a b = true := by unfold dnB; exact decide_eq_true ⟨hb, h⟩
  refine ret_two ?_ h2.symm
  unfold dn; rw [h2, wrap64_le _ (by omega) (by omega)]; rfl
/-! ### Place -/
def plB (i n : Int) : Bool := decide (1 ≤ n ∧ -n ≤ i ∧ i < n)
def pl (i n : Int) : Int := if plB i n = true then (if i < 0 then i + n else i) else 0
theorem pl_no (i n : Int) (h : ¬ (1 ≤ n ∧ -n ≤ i ∧ i < n)) : Ending.returned (.tuple #[.int .i64 0, .bool false]) = .returned (.tuple #[.int .i64 (pl i n), .bool (plB i n)]) := by
  have h1 : plB i n = false := by unfold plB; exact decide_eq_false h
  refine ret_two ?_ h1.symm
  unfold pl; rw [h1]; rfl
theorem pl_yes (i n x : Int) (h : 1 ≤ n ∧ -n ≤ i ∧ i < n) (hx : x = if i < 0 then i + n else i) : Ending.returned (.tuple #[.int .i64 x, .bool true]) = .returned (.tuple #[.int .i64 (pl i n), .bool (plB i n)]) := by
  have h1 : plB i n = true := by unfold plB; exact decide_eq_true h
  refine ret_two ?_ h1.symm
  unfold pl; rw [h1, hx]; rfl
/-! ### Steps -/
/-- does Steps go as far as n? -/
def Near (n : Int) : Prop := -1099511627776 ≤ n ∧ n ≤ 1099511627776
def stB (f t s : Int) : Bool := decide (s ≠ 0 ∧ (-1099511627776 ≤ f ∧ f ≤ 1099511627776) ∧ (-1099511627776 ≤ t ∧ t ≤ 1099511627776) ∧ (-1099511627776 ≤ s ∧ s ≤ 1099511627776))
def st (f t s : Int) : Int := if stB f t s = true then (if 0 < s then (if f < t then (t - f - 1) / s + 1 else 0) else (if t < f then (f - t - 1) / -s + 1 else 0)) else 0
theorem st_no (f t s : Int) (h : ¬ (s ≠ 0 ∧ (-1099511627776 ≤ f ∧ f ≤ 1099511627776) ∧ (-1099511627776 ≤ t ∧ t ≤ 1099511627776) ∧ (-1099511627776 ≤ s ∧ s ≤ 1099511627776))) :
    Ending.returned (.tuple #[.int .i64 0, .bool false]) = .returned (.tuple #[.int .i64 (st f t s), .bool (stB f t s)]) := by
  have h1 : stB f t s = false := by unfold stB; exact decide_eq_false h
  refine ret_two ?_ h1.symm
  unfold st; rw [h1]; rfl
theorem st_none (f t s : Int) (h : s ≠ 0 ∧ (-1099511627776 ≤ f ∧ f ≤ 1099511627776) ∧ (-1099511627776 ≤ t ∧ t ≤ 1099511627776) ∧ (-1099511627776 ≤ s ∧ s ≤ 1099511627776))
    (hu : 0 < s → t ≤ f) (hd : s < 0 → f ≤ t) :
    Ending.returned (.tuple #[.int .i64 0, .bool true]) = .returned (.tuple #[.int .i64 (st f t s), .bool (stB f t s)]) := by
  have h1 : stB f t s = true := by unfold stB; exact decide_eq_true h
  refine ret_two ?_ h1.symm
  unfold st; rw [h1, if_pos rfl]
  by_cases h2 : 0 < s
  · rw [if_pos h2, if_neg (by have := hu h2; omega)]
  · rw [if_neg h2, if_neg (by have := hd (by omega); omega)]
theorem st_up (f t s x : Int) (h : s ≠ 0 ∧ (-1099511627776 ≤ f ∧ f ≤ 1099511627776) ∧ (-1099511627776 ≤ t ∧ t ≤ 1099511627776) ∧ (-1099511627776 ≤ s ∧ s ≤ 1099511627776))
    (hs : 0 < s) (hl : f < t) (hx : x = (t - f - 1) / s + 1) :
    Ending.returned (.tuple #[.int .i64 x, .bool true]) = .returned (.tuple #[.int .i64 (st f t s), .bool (stB f t s)]) := by
  have h1 : stB f t s = true := by unfold stB; exact decide_eq_true h
  refine ret_two ?_ h1.symm
  unfold st; rw [h1, if_pos rfl, if_pos hs, if_pos hl, hx]
theorem st_down (f t s x : Int) (h : s ≠ 0 ∧ (-1099511627776 ≤ f ∧ f ≤ 1099511627776) ∧ (-1099511627776 ≤ t ∧ t ≤ 1099511627776) ∧ (-1099511627776 ≤ s ∧ s ≤ 1099511627776))
    (hs : s < 0) (hl : t < f) (hx : x = (f - t - 1) / -s + 1) :
    Ending.returned (.tuple #[.int .i64 x, .bool true]) = .returned (.tuple #[.int .i64 (st f t s), .bool (stB f t s)]) := by
  have h1 : stB f t s = true := by unfold stB; exact decide_eq_true h
  refine ret_two ?_ h1.symm
  unfold st; rw [h1, if_pos rfl, if_neg (by omega), if_pos hl, hx]
theorem div_le (x y : Int) (hx : 0 ≤ x) (hx2 : x ≤ 4398046511104) (hy : 0 < y) : 0 ≤ x / y ∧ x / y ≤ 4398046511104 :=
  ⟨Int.ediv_nonneg hx (by omega), Int.le_trans (Int.ediv_le_self _ hx) hx2⟩
theorem st_first (f t s : Int) (h1 : ¬ s = 0) (h : ¬ (s ≠ 0 ∧ (-1099511627776 ≤ f ∧ f ≤ 1099511627776) ∧ (-1099511627776 ≤ t ∧ t ≤ 1099511627776) ∧ (-1099511627776 ≤ s ∧ s ≤ 1099511627776))) :
    (decide (f < -1099511627776) = true) ∨ (decide (f < -1099511627776) = false ∧ decide (1099511627776 < f) = true) ∨ (decide (f < -1099511627776) = false ∧ decide (1099511627776 < f) = false ∧ decide (t < -1099511627776) = true) ∨ (decide (f < -1099511627776) = false ∧ decide (1099511627776 < f) = false ∧ decide (t < -1099511627776) = false ∧ decide (1099511627776 < t) = true) ∨ (decide (f < -1099511627776) = false ∧ decide (1099511627776 < f) = false ∧ decide (t < -1099511627776) = false ∧ decide (1099511627776 < t) = false ∧ decide (s < -1099511627776) = true) ∨ (decide (f < -1099511627776) = false ∧ decide (1099511627776 < f) = false ∧ decide (t < -1099511627776) = false ∧ decide (1099511627776 < t) = false ∧ decide (s < -1099511627776) = false ∧ decide (1099511627776 < s) = true) := by
  simp only [decide_eq_false_iff_not, decide_eq_true_eq]
  omega
theorem st_in (f t s : Int) (h : (s ≠ 0 ∧ (-1099511627776 ≤ f ∧ f ≤ 1099511627776) ∧ (-1099511627776 ≤ t ∧ t ≤ 1099511627776) ∧ (-1099511627776 ≤ s ∧ s ≤ 1099511627776))) :
    decide (f < -1099511627776) = false ∧ decide (1099511627776 < f) = false ∧ decide (t < -1099511627776) = false ∧ decide (1099511627776 < t) = false ∧ decide (s < -1099511627776) = false ∧ decide (1099511627776 < s) = false := by
  simp only [decide_eq_false_iff_not]
  omega
theorem st_quo_up (f t s : Int) (h : (s ≠ 0 ∧ (-1099511627776 ≤ f ∧ f ≤ 1099511627776) ∧ (-1099511627776 ≤ t ∧ t ≤ 1099511627776) ∧ (-1099511627776 ≤ s ∧ s ≤ 1099511627776))) (hs : 0 < s) (hl : f < t) : wrap64 ((t - f - 1) / s + 1) = (t - f - 1) / s + 1 := by
  have := div_le (t - f - 1) s (by omega) (by omega) hs
  exact wrap64_le _ (by omega) (by omega)
theorem st_quo_down (f t s : Int) (h : (s ≠ 0 ∧ (-1099511627776 ≤ f ∧ f ≤ 1099511627776) ∧ (-1099511627776 ≤ t ∧ t ≤ 1099511627776) ∧ (-1099511627776 ≤ s ∧ s ≤ 1099511627776))) (hs : s < 0) (hl : t < f) : wrap64 (wrap64 (-(f - t - 1).tdiv s) + 1) = (f - t - 1) / -s + 1 := by
  have h1 : -(f - t - 1).tdiv s = (f - t - 1) / -s := by
    rw [← Int.tdiv_neg, Int.tdiv_eq_ediv_of_nonneg (by omega)]
  rw [h1]
  have := div_le (f - t - 1) (-s) (by omega) (by omega) (by omega)
  rw [wrap64_le ((f - t - 1) / -s) (by omega) (by omega), wrap64_le _ (by omega) (by omega)]
def nearB (n : Int) : Bool := decide (-1099511627776 ≤ n ∧ n ≤ 1099511627776)
theorem near_in (f t s : Int) (h : (s ≠ 0 ∧ (-1099511627776 ≤ f ∧ f ≤ 1099511627776) ∧ (-1099511627776 ≤ t ∧ t ≤ 1099511627776) ∧ (-1099511627776 ≤ s ∧ s ≤ 1099511627776))) : nearB f = true ∧ nearB t = true ∧ nearB s = true := ⟨decide_eq_true h.2.1, decide_eq_true h.2.2.1, decide_eq_true h.2.2.2⟩
theorem near_out (f t s : Int) (h1 : ¬ s = 0) (h : ¬ (s ≠ 0 ∧ (-1099511627776 ≤ f ∧ f ≤ 1099511627776) ∧ (-1099511627776 ≤ t ∧ t ≤ 1099511627776) ∧ (-1099511627776 ≤ s ∧ s ≤ 1099511627776))) : (nearB f = false) ∨ (nearB f = true ∧ nearB t = false) ∨ (nearB f = true ∧ nearB t = true ∧ nearB s = false) := by
  unfold nearB; simp only [decide_eq_true_eq, decide_eq_false_iff_not]; omega
end Go.Proofs.Ytkpfhjjojchdlaa
