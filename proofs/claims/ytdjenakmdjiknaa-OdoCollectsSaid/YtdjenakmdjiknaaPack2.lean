/-
  Texts of this claim, one behind the other.
-/
import Derived.Test.YtdjenakmdjiknaaRows
import Derived.WalkKit
import Derived.ProofKit
import Derived.OpenShut
import Derived.Lib.Hide
import Derived.BigQuiet
import Derived.Deep.QuietTactic
import Derived.Deep.Draws
import Derived.Test.YtdjenakmdjiknaaPack1

/-! THE CONTRACTS OF PACKAGE num AND OF ITS REFERENCE over integers of 64 bits: Div, Mod, Down, Place, Steps. -/
section
namespace Go.Proofs.Ytdjenakmdjiknaa
open Go.ChangeShapes Go.WideShapes Go.ChangeAt Go.RowKit
set_option linter.unusedVariables false

/-- a by b rounded down, as 64 bits hold it; 0 by 0. -/
def dv (a b : Int) : Int := if b = 0 then 0 else wrap64 (a.fdiv b)
/-- what is left of a by b rounded down. -/
def md (a b : Int) : Int := if b = 0 then 0 else a.fmod b

theorem ret_two {k : IntKind} {a b : Int} {c d : Bool} (h : a = b) (g : c = d) : Ending.returned (.tuple #[.int k a, .bool c]) = .returned (.tuple #[.int k b, .bool d]) := by rw [h, g]

theorem fdiv_same (a b : Int) (hb : ¬ b = 0) (h : a.tmod b = 0 ∨ (decide (a < 0) = decide (b < 0))) : a.fdiv b = a.tdiv b := by
  rw [Int.fdiv_eq_tdiv]
  by_cases hd : b ∣ a
  · simp [hd]
  · rcases h with h | h
    · exact absurd (Int.dvd_of_tmod_eq_zero h) hd
    · simp only [hd, if_false]
      by_cases ha : 0 ≤ a
      · have : 0 ≤ b := by
          have h' : decide (a < 0) = false := by simp; omega
          rw [h'] at h; simpa using h.symm
        simp [ha, this]
      · have : ¬ 0 ≤ b := by
          have h' : decide (a < 0) = true := by simp; omega
          rw [h'] at h; have := h.symm; simp at this; omega
        simp only [ha, this, if_false]
        have : b.sign = -1 := Int.sign_eq_neg_one_of_neg (by omega)
        omega
theorem fdiv_less (a b : Int) (hb : ¬ b = 0) (h : ¬ a.tmod b = 0) (g : ¬ decide (a < 0) = decide (b < 0)) : a.fdiv b = a.tdiv b - 1 := by
  rw [Int.fdiv_eq_tdiv]
  have hd : ¬ b ∣ a := fun hd => h (Int.tmod_eq_zero_of_dvd hd)
  simp only [hd, if_false]
  by_cases ha : 0 ≤ a
  · have : ¬ 0 ≤ b := fun hb => g (by have : ¬ a < 0 := by omega
                                      have : ¬ b < 0 := by omega
                                      simp [*])
    simp [ha, this]
  · have : 0 ≤ b := by
      apply Decidable.byContradiction; intro hb
      exact g (by have : a < 0 := by omega
                  have : b < 0 := by omega
                  simp [*])
    have hs : b.sign = 1 := Int.sign_eq_one_of_pos (by omega)
    simp [ha, this, hs]
theorem fmod_of (a b : Int) : a.fmod b = a - b * a.fdiv b := by have := Int.mul_fdiv_add_fmod a b; omega
theorem tmod_of (a b : Int) : a.tmod b = a - b * a.tdiv b := by have := Int.mul_tdiv_add_tmod a b; omega
theorem fmod_same (a b : Int) (hb : ¬ b = 0) (h : a.tmod b = 0 ∨ (decide (a < 0) = decide (b < 0))) : a.fmod b = a.tmod b := by
  rw [fmod_of, tmod_of, fdiv_same a b hb h]
theorem fmod_less (a b : Int) (hb : ¬ b = 0) (h : ¬ a.tmod b = 0) (g : ¬ decide (a < 0) = decide (b < 0)) : a.fmod b = a.tmod b + b := by
  rw [fmod_of, tmod_of, fdiv_less a b hb h g, Int.mul_sub]; omega

theorem wrap64_sub (n k : Int) : wrap64 (wrap64 n - k) = wrap64 (n - k) := by unfold wrap64; omega
theorem wrap64_le (n : Int) (h1 : -9223372036854775808 ≤ n) (h2 : n ≤ 9223372036854775807) : wrap64 n = n := by unfold wrap64; omega

theorem dv_zero (a : Int) : dv a 0 = 0 := rfl
theorem dv_same (a b : Int) (hb : ¬ b = 0) (h : a.tmod b = 0 ∨ (decide (a < 0) = decide (b < 0))) : wrap64 (a.tdiv b) = dv a b := by
  unfold dv; rw [if_neg hb, fdiv_same a b hb h]
theorem dv_less (a b : Int) (hb : ¬ b = 0) (h : ¬ a.tmod b = 0) (g : ¬ decide (a < 0) = decide (b < 0)) : wrap64 (wrap64 (a.tdiv b) - 1) = dv a b := by
  unfold dv; rw [if_neg hb, fdiv_less a b hb h g, wrap64_sub]

theorem parts_yes {t : Int} {x y : Bool} (h : (t != 0) = true ∧ (!x == y) = true) : ¬ x = y := by
  intro e; subst e; simp at h
theorem parts_no {t : Int} {x y : Bool} (h : ¬ t = 0) (g : (t != 0) = false ∨ (!x == y) = false) : t = 0 ∨ x = y := by
  rcases g with g | g
  · exact .inl (by simpa using g)
  · exact .inr (by simpa using g)

theorem md_same (a b : Int) (hb : ¬ b = 0) (h : a.tmod b = 0 ∨ (decide (a < 0) = decide (b < 0))) : a.tmod b = md a b := by
  unfold md; rw [if_neg hb, fmod_same a b hb h]
theorem md_nought (a b : Int) (hb : ¬ b = 0) (h : a.tmod b = 0) : 0 = md a b := by
  rw [← md_same a b hb (.inl h), h]
theorem md_less (a b : Int) (hb : ¬ b = 0) (h : ¬ a.tmod b = 0) (g : ¬ decide (a < 0) = decide (b < 0)) : a.tmod b + b = md a b := by
  unfold md; rw [if_neg hb, fmod_less a b hb h g]

theorem tmod_sign (a b : Int) (h : ¬ a.tmod b = 0) : decide (a.tmod b < 0) = decide (a < 0) := by
  by_cases ha : a < 0
  · have : a.tmod b ≤ 0 := by
      have := Int.tmod_nonneg (a := -a) b (by omega)
      rw [Int.neg_tmod] at this; omega
    have h1 : a.tmod b < 0 := by omega
    simp [ha, h1]
  · have : 0 ≤ a.tmod b := Int.tmod_nonneg b (by omega)
    have h1 : ¬ a.tmod b < 0 := by omega
    simp [ha, h1]
theorem md_between (a b : Int) (hb : ¬ b = 0) : (0 < b → 0 ≤ md a b ∧ md a b < b) ∧ (b < 0 → b < md a b ∧ md a b ≤ 0) := by
  unfold md; rw [if_neg hb]
  constructor
  · intro h; exact ⟨Int.fmod_nonneg_of_pos a h, Int.fmod_lt_of_pos a h⟩
  · intro h
    have h1 := Int.fmod_nonneg_of_pos (-a) (b := -b) (by omega)
    have h2 := Int.fmod_lt_of_pos (-a) (b := -b) (by omega)
    rw [Int.neg_fmod_neg] at h1 h2
    omega
theorem md_i64 (a b : Int) (hb : I64 b) : I64 (md a b) := by
  by_cases h : b = 0
  · subst h; unfold md I64; simp
  · have := md_between a b h
    unfold I64 at *; omega
theorem md_more (a b : Int) (hi : I64 b) (hb : ¬ b = 0) (h : ¬ a.tmod b = 0) (g : ¬ decide (a.tmod b < 0) = decide (b < 0)) : wrap64 (a.tmod b + b) = md a b := by
  rw [md_less a b hb h (by rw [← tmod_sign a b h]; exact g)]
  have := md_i64 a b hi
  exact wrap64_le _ this.1 this.2
theorem md_as (a b : Int) (hb : ¬ b = 0) (h : ¬ a.tmod b = 0) (g : a.tmod b = 0 ∨ decide (a.tmod b < 0) = decide (b < 0)) : a.tmod b = md a b := by
  rw [tmod_sign a b h] at g; exact md_same a b hb g

theorem dv_minus (a b : Int) (h : (b == -1) = true) : wrap64 (-a) = dv a b := by
  have : b = -1 := by simpa using h
  subst this
  have h1 : a.tdiv (-1) = -a := by simp
  rw [← h1]; exact dv_same a (-1) (by omega) (.inl (by simp))
theorem md_minus (a b : Int) (h : (b == -1) = true) : 0 = md a b := by
  have : b = -1 := by simpa using h
  subst this
  exact md_nought a (-1) (by omega) (by simp)

/-- may a be brought down to a multiple of b? -/
def dnB (a b : Int) : Bool := decide (1 ≤ b ∧ -9223372036854775808 + md a b ≤ a)
/-- the greatest multiple of b not above a. -/
def dn (a b : Int) : Int := if dnB a b = true then a - md a b else 0
theorem dn_no (a b : Int) (h : ¬ (1 ≤ b ∧ -9223372036854775808 + md a b ≤ a)) : Ending.returned (.tuple #[.int .i64 0, .bool false]) = .returned (.tuple #[.int .i64 (dn a b), .bool (dnB a b)]) := by
  have h1 : dnB a b = false := by unfold dnB; exact decide_eq_false h
  refine ret_two ?_ h1.symm
  unfold dn; rw [h1]; rfl
theorem dn_few (a b : Int) (h : b < 1) : Ending.returned (.tuple #[.int .i64 0, .bool false]) = .returned (.tuple #[.int .i64 (dn a b), .bool (dnB a b)]) :=
  dn_no a b (by omega)
theorem md_pos (a b : Int) (h : 1 ≤ b) : 0 ≤ md a b ∧ md a b < b := (md_between a b (by omega)).1 (by omega)
theorem dn_low (a b : Int) (hi : I64 b) (hb : 1 ≤ b) (h : a < wrap64 (-9223372036854775808 + md a b)) : Ending.returned (.tuple #[.int .i64 0, .bool false]) = .returned (.tuple #[.int .i64 (dn a b), .bool (dnB a b)]) := by
  have h1 := md_pos a b hb
  unfold I64 at hi
  rw [wrap64_le _ (by omega) (by omega)] at h
  exact dn_no a b (by omega)
theorem dn_yes (a b : Int) (ha : I64 a) (hi : I64 b) (hb : 1 ≤ b) (h : wrap64 (-9223372036854775808 + md a b) ≤ a) : Ending.returned (.tuple #[.int .i64 (wrap64 (a - md a b)), .bool true]) = .returned (.tuple #[.int .i64 (dn a b), .bool (dnB a b)]) := by
  have h1 := md_pos a b hb
  unfold I64 at hi ha
  rw [wrap64_le _ (by omega) (by omega)] at h
  have h2 : dnB a b = true := by unfold dnB; exact decide_eq_true ⟨hb, h⟩
  refine ret_two ?_ h2.symm
  unfold dn; rw [h2, wrap64_le _ (by omega) (by omega)]; rfl
/-! ### Place -/
def plB (i n : Int) : Bool := decide (1 ≤ n ∧ -n ≤ i ∧ i < n)
def pl (i n : Int) : Int := if plB i n = true then (if i < 0 then i + n else i) else 0
theorem pl_no (i n : Int) (h : ¬ (1 ≤ n ∧ -n ≤ i ∧ i < n)) : Ending.returned (.tuple #[.int .i64 0, .bool false]) = .returned (.tuple #[.int .i64 (pl i n), .bool (plB i n)]) := by
  have h1 : plB i n = false := by unfold plB; exact decide_eq_false h
  refine ret_two ?_ h1.symm
  unfold pl; rw [h1]; rfl
theorem pl_yes (i n x : Int) (h : 1 ≤ n ∧ -n ≤ i ∧ i < n) (hx : x = if i < 0 then i + n else i) : Ending.returned (.tuple #[.int .i64 x, .bool true]) = .returned (.tuple #[.int .i64 (pl i n), .bool (plB i n)]) := by
  have h1 : plB i n = true := by unfold plB; exact decide_eq_true h
  refine ret_two ?_ h1.symm
  unfold pl; rw [h1, hx]; rfl
/-! ### Steps -/
/-- does Steps go as far as n? -/
def Near (n : Int) : Prop := -1099511627776 ≤ n ∧ n ≤ 1099511627776
def stB (f t s : Int) : Bool := decide (s ≠ 0 ∧ (-1099511627776 ≤ f ∧ f ≤ 1099511627776) ∧ (-1099511627776 ≤ t ∧ t ≤ 1099511627776) ∧ (-1099511627776 ≤ s ∧ s ≤ 1099511627776))
def st (f t s : Int) : Int := if stB f t s = true then (if 0 < s then (if f < t then (t - f - 1) / s + 1 else 0) else (if t < f then (f - t - 1) / -s + 1 else 0)) else 0
theorem st_no (f t s : Int) (h : ¬ (s ≠ 0 ∧ (-1099511627776 ≤ f ∧ f ≤ 1099511627776) ∧ (-1099511627776 ≤ t ∧ t ≤ 1099511627776) ∧ (-1099511627776 ≤ s ∧ s ≤ 1099511627776))) :
    Ending.returned (.tuple #[.int .i64 0, .bool false]) = .returned (.tuple #[.int .i64 (st f t s), .bool (stB f t s)]) := by
  have h1 : stB f t s = false := by unfold stB; exact decide_eq_false h
  refine ret_two ?_ h1.symm
  unfold st; rw [h1]; rfl
theorem st_none (f t s : Int) (h : s ≠ 0 ∧ (-1099511627776 ≤ f ∧ f ≤ 1099511627776) ∧ (-1099511627776 ≤ t ∧ t ≤ 1099511627776) ∧ (-1099511627776 ≤ s ∧ s ≤ 1099511627776))
    (hu : 0 < s → t ≤ f) (hd : s < 0 → f ≤ t) :
    Ending.returned (.tuple #[.int .i64 0, .bool true]) = .returned (.tuple #[.int .i64 (st f t s), .bool (stB f t s)]) := by
  have h1 : stB f t s = true := by unfold stB; exact decide_eq_true h
  refine ret_two ?_ h1.symm
  unfold st; rw [h1, if_pos rfl]
  by_cases h2 : 0 < s
  · rw [if_pos h2, if_neg (by have := hu h2; omega)]
  · rw [if_neg h2, if_neg (by have := hd (by omega); omega)]
theorem st_up (f t s x : Int) (h : s ≠ 0 ∧ (-1099511627776 ≤ f ∧ f ≤ 1099511627776) ∧ (-1099511627776 ≤ t ∧ t ≤ 1099511627776) ∧ (-1099511627776 ≤ s ∧ s ≤ 1099511627776))
    (hs : 0 < s) (hl : f < t) (hx : x = (t - f - 1) / s + 1) :
    Ending.returned (.tuple #[.int .i64 x, .bool true]) = .returned (.tuple #[.int .i64 (st f t s), .bool (stB f t s)]) := by
  have h1 : stB f t s = true := by unfold stB; exact decide_eq_true h
  refine ret_two ?_ h1.symm
  unfold st; rw [h1, if_pos rfl, if_pos hs, if_pos hl, hx]
theorem st_down (f t s x : Int) (h : s ≠ 0 ∧ (-1099511627776 ≤ f ∧ f ≤ 1099511627776) ∧ (-1099511627776 ≤ t ∧ t ≤ 1099511627776) ∧ (-1099511627776 ≤ s ∧ s ≤ 1099511627776))
    (hs : s < 0) (hl : t < f) (hx : x = (f - t - 1) / -s + 1) :
    Ending.returned (.tuple #[.int .i64 x, .bool true]) = .returned (.tuple #[.int .i64 (st f t s), .bool (stB f t s)]) := by
  have h1 : stB f t s = true := by unfold stB; exact decide_eq_true h
  refine ret_two ?_ h1.symm
  unfold st; rw [h1, if_pos rfl, if_neg (by omega), if_pos hl, hx]
theorem div_le (x y : Int) (hx : 0 ≤ x) (hx2 : x ≤ 4398046511104) (hy : 0 < y) : 0 ≤ x / y ∧ x / y ≤ 4398046511104 :=
  ⟨Int.ediv_nonneg hx (by omega), Int.le_trans (Int.ediv_le_self _ hx) hx2⟩
theorem st_first (f t s : Int) (h1 : ¬ s = 0) (h : ¬ (s ≠ 0 ∧ (-1099511627776 ≤ f ∧ f ≤ 1099511627776) ∧ (-1099511627776 ≤ t ∧ t ≤ 1099511627776) ∧ (-1099511627776 ≤ s ∧ s ≤ 1099511627776))) :
    (decide (f < -1099511627776) = true) ∨ (decide (f < -1099511627776) = false ∧ decide (1099511627776 < f) = true) ∨ (decide (f < -1099511627776) = false ∧ decide (1099511627776 < f) = false ∧ decide (t < -1099511627776) = true) ∨ (decide (f < -1099511627776) = false ∧ decide (1099511627776 < f) = false ∧ decide (t < -1099511627776) = false ∧ decide (1099511627776 < t) = true) ∨ (decide (f < -1099511627776) = false ∧ decide (1099511627776 < f) = false ∧ decide (t < -1099511627776) = false ∧ decide (1099511627776 < t) = false ∧ decide (s < -1099511627776) = true) ∨ (decide (f < -1099511627776) = false ∧ decide (1099511627776 < f) = false ∧ decide (t < -1099511627776) = false ∧ decide (1099511627776 < t) = false ∧ decide (s < -1099511627776) = false ∧ decide (1099511627776 < s) = true) := by
  simp only [decide_eq_false_iff_not, decide_eq_true_eq]
  omega
theorem st_in (f t s : Int) (h : (s ≠ 0 ∧ (-1099511627776 ≤ f ∧ f ≤ 1099511627776) ∧ (-1099511627776 ≤ t ∧ t ≤ 1099511627776) ∧ (-1099511627776 ≤ s ∧ s ≤ 1099511627776))) :
    decide (f < -1099511627776) = false ∧ decide (1099511627776 < f) = false ∧ decide (t < -1099511627776) = false ∧ decide (1099511627776 < t) = false ∧ decide (s < -1099511627776) = false ∧ decide (1099511627776 < s) = false := by
  simp only [decide_eq_false_iff_not]
  omega
theorem st_quo_up (f t s : Int) (h : (s ≠ 0 ∧ (-1099511627776 ≤ f ∧ f ≤ 1099511627776) ∧ (-1099511627776 ≤ t ∧ t ≤ 1099511627776) ∧ (-1099511627776 ≤ s ∧ s ≤ 1099511627776))) (hs : 0 < s) (hl : f < t) : wrap64 ((t - f - 1) / s + 1) = (t - f - 1) / s + 1 := by
  have := div_le (t - f - 1) s (by omega) (by omega) hs
  exact wrap64_le _ (by omega) (by omega)
theorem st_quo_down (f t s : Int) (h : (s ≠ 0 ∧ (-1099511627776 ≤ f ∧ f ≤ 1099511627776) ∧ (-1099511627776 ≤ t ∧ t ≤ 1099511627776) ∧ (-1099511627776 ≤ s ∧ s ≤ 1099511627776))) (hs : s < 0) (hl : t < f) : wrap64 (wrap64 (-(f - t - 1).tdiv s) + 1) = (f - t - 1) / -s + 1 := by
  have h1 : -(f - t - 1).tdiv s = (f - t - 1) / -s := by
    rw [← Int.tdiv_neg, Int.tdiv_eq_ediv_of_nonneg (by omega)]
  rw [h1]
  have := div_le (f - t - 1) (-s) (by omega) (by omega) (by omega)
  rw [wrap64_le ((f - t - 1) / -s) (by omega) (by omega), wrap64_le _ (by omega) (by omega)]
def nearB (n : Int) : Bool := decide (-1099511627776 ≤ n ∧ n ≤ 1099511627776)
theorem near_in (f t s : Int) (h : (s ≠ 0 ∧ (-1099511627776 ≤ f ∧ f ≤ 1099511627776) ∧ (-1099511627776 ≤ t ∧ t ≤ 1099511627776) ∧ (-1099511627776 ≤ s ∧ s ≤ 1099511627776))) : nearB f = true ∧ nearB t = true ∧ nearB s = true := ⟨decide_eq_true h.2.1, decide_eq_true h.2.2.1, decide_eq_true h.2.2.2⟩
theorem near_out (f t s : Int) (h1 : ¬ s = 0) (h : ¬ (s ≠ 0 ∧ (-1099511627776 ≤ f ∧ f ≤ 1099511627776) ∧ (-1099511627776 ≤ t ∧ t ≤ 1099511627776) ∧ (-1099511627776 ≤ s ∧ s ≤ 1099511627776))) : (nearB f = false) ∨ (nearB f = true ∧ nearB t = false) ∨ (nearB f = true ∧ nearB t = true ∧ nearB s = false) := by
  unfold nearB; simp only [decide_eq_true_eq, decide_eq_false_iff_not]; omega
end Go.Proofs.Ytdjenakmdjiknaa
end

/-! SLICES OF INTEGERS THAT ARE ONLY READ: slices.Index, slices.Contains, slices.Min; then num.sizes, Product, Total and their references. -/
section
namespace Go.Proofs.Ytdjenakmdjiknaa
open Go.ChangeShapes Go.WideShapes Go.ChangeAt Go.RowKit
set_option linter.unusedVariables false

/-- the slice at A, of n cells, holds the numbers zs. -/
def Ints (w : World) (A : Option Addr) (n : Nat) (zs : List Int) : Prop :=
  zs.length = n ∧ (0 < n → ∃ b off, A = some ⟨b, off, none⟩ ∧ ∀ k, k < n → w.cell? ⟨b, off + k, none⟩ = some (.int .i64 (zs.getD k 0)))
theorem Ints.at_ {w : World} {A : Option Addr} {n : Nat} {zs : List Int} (h : Ints w A n zs) {k : Nat} (hk : k < n) :
    ∃ b off, A = some ⟨b, off, none⟩ ∧ w.cell? ⟨b, off + k, none⟩ = some (.int .i64 (zs.getD k 0)) := by
  obtain ⟨b, off, e, hc⟩ := h.2 (by omega)
  exact ⟨b, off, e, hc k hk⟩
theorem Ints.drewN {w : World} {A : Option Addr} {n : Nat} {zs : List Int} (h : Ints w A n zs) (m : Nat) : Ints (w.drewN m) A n zs := h
theorem Ints.drew {w : World} {A : Option Addr} {n : Nat} {zs : List Int} (h : Ints w A n zs) : Ints w.drew A n zs := h

theorem ret_num {k : IntKind} {a b : Int} (h : a = b) : Ending.returned (.int k a) = .returned (.int k b) := by rw [h]
theorem ret_bool {a b : Bool} (h : a = b) : Ending.returned (.bool a) = .returned (.bool b) := by rw [h]

/-- where x first stands, or -1. -/
def idx (zs : List Int) (x : Int) : Int := if x ∈ zs then (zs.idxOf x : Int) else -1
theorem idx_has (zs : List Int) (x : Int) : decide (0 ≤ idx zs x) = decide (x ∈ zs) := by
  unfold idx; by_cases h : x ∈ zs <;> simp [h]
theorem notin_take (zs : List Int) (x : Int) (k : Nat) (hk : k < zs.length) (h : x ∉ zs.take k) (hx : ¬ x = zs.getD k 0) : x ∉ zs.take (k + 1) := by
  rw [List.take_succ_eq_append_getElem hk, List.mem_append, not_or]
  refine ⟨h, ?_⟩
  have : zs.getD k 0 = zs[k] := by simp [List.getD, hk]
  rw [this] at hx
  simpa using hx
theorem idx_here (zs : List Int) (x : Int) (k : Nat) (hk : k < zs.length) (h : x ∉ zs.take k) (hx : x = zs.getD k 0) : (k : Int) = idx zs x := by
  have e : zs.getD k 0 = zs[k] := by simp [List.getD, hk]
  have hm : x ∈ zs := by rw [hx, e]; exact List.getElem_mem hk
  unfold idx
  rw [if_pos hm]
  congr 1
  have h1 : zs.idxOf x ≤ k := by
    rw [hx, e]
    rcases Nat.lt_or_ge k (zs.idxOf zs[k]) with h | h
    · have := List.not_of_lt_findIdx h
      simp at this
    · exact h
  rcases Nat.lt_or_ge (zs.idxOf x) k with h2 | h2
  · exfalso
    apply h
    have h3 : zs.idxOf x < zs.length := by omega
    have h4 : zs[zs.idxOf x] = x := List.getElem_idxOf h3
    rw [List.mem_take_iff_getElem]
    exact ⟨zs.idxOf x, by omega, h4⟩
  · omega

theorem idx_none (zs : List Int) (x : Int) (k : Nat) (hk : zs.length ≤ k) (h : x ∉ zs.take k) : -1 = idx zs x := by
  unfold idx
  rw [List.take_of_length_le hk] at h
  rw [if_neg h]

theorem index_any (A : Option Addr) (n c : Nat) (zs : List Int) (x : Int) (w : World) (h : Ints w A n zs) (hn : n ≤ 9223372036854775807) :
    Calls Try.prog 69 #[.slice A n c, .int .i64 x] w fun e w' => e = .returned (.int .i64 (idx zs x)) ∧ w' = w := by
  have hl := h.1
  have HL := Lib.hid hl
  clear hl
  go_enter Try.func69, Try.ntmps69
  go_wp2
  go_loop [8] (fun i => ∃ k : Nat, k ≤ n ∧ i = .int .i64 k ∧ x ∉ zs.take k) (fun i => n - (intOf i).toNat)
  case atStart => exact ⟨0, Nat.zero_le _, rfl, by simp⟩
  case round =>
    obtain ⟨k, hk, rfl, hnot⟩ := hrel
    by_cases hlt : k < n
    · obtain ⟨b, off, rfl, hc⟩ := h.at_ hlt
      go_wp2
      · have hx : x = zs.getD k 0 := by simpa using ‹(x == zs[k]?.getD 0) = true›
        go_ret
        exact ⟨ret_num (idx_here zs x k (by rw [HL.out]; exact hlt) hnot hx), rfl⟩
      · have hx : ¬ x = zs.getD k 0 := by simpa using ‹(x == zs[k]?.getD 0) = false›
        go_round
        case rel => exact ⟨k + 1, by omega, by go_num, notin_take zs x k (by rw [HL.out]; exact hlt) hnot hx⟩
        case measure => simp [intOf]; omega
    · go_wp2
      go_ret
      exact ⟨ret_num (idx_none zs x k (by rw [HL.out]; omega) hnot), rfl⟩

theorem contains_any (A : Option Addr) (n c : Nat) (zs : List Int) (x : Int) (w : World) (h : Ints w A n zs) (hn : n ≤ 9223372036854775807) :
    Calls Try.prog 65 #[.slice A n c, .int .i64 x] w fun e w' => e = .returned (.bool (decide (x ∈ zs))) ∧ w' = w := by
  have H := Lib.hid h
  clear h
  go_enter Try.func65, Try.ntmps65
  go_wp2_with (go_at_call 69; refine (index_any _ _ _ zs _ _ H.out hn).mono ?_; rintro e w' ⟨rfl, rfl⟩)
  go_ret
  exact ⟨ret_bool (idx_has zs x), rfl⟩

/-- v is the least of the first k numbers. -/
def Least (zs : List Int) (k : Nat) (v : Int) : Prop := (∃ j, j < k ∧ zs.getD j 0 = v) ∧ ∀ j, j < k → v ≤ zs.getD j 0
theorem Least.step {zs : List Int} {k : Nat} {v : Int} (h : Least zs k v) : Least zs (k + 1) (if zs.getD k 0 < v then zs.getD k 0 else v) := by
  obtain ⟨⟨j, hj, e⟩, hl⟩ := h
  by_cases hlt : zs.getD k 0 < v
  · rw [if_pos hlt]
    refine ⟨⟨k, by omega, rfl⟩, fun i hi => ?_⟩
    by_cases hik : i = k
    · rw [hik]; exact Int.le_refl _
    · have := hl i (by omega); omega
  · rw [if_neg hlt]
    refine ⟨⟨j, by omega, e⟩, fun i hi => ?_⟩
    by_cases hik : i = k
    · rw [hik]; omega
    · exact hl i (by omega)
theorem least_first (zs : List Int) : Least zs 1 (zs[0]?.getD 0) := by
  refine ⟨⟨0, by omega, by simp [List.getD]⟩, fun j hj => ?_⟩
  obtain rfl : j = 0 := by omega
  exact Int.le_of_eq (by simp [List.getD])
def SomeLeast (zs : List Int) (n : Nat) (w : World) (e : Ending) (w' : World) : Prop := ∃ v : Int, Least zs n v ∧ e = .returned (.int .i64 v) ∧ w' = w

theorem min_any (A : Option Addr) (n c : Nat) (zs : List Int) (w : World) (h : Ints w A n zs) (hn : n ≤ 9223372036854775807) (h0 : 0 < n) :
    Calls Try.prog 68 #[.slice A n c] w (SomeLeast zs n w) := by
  obtain ⟨b, off, rfl, hc⟩ := h.at_ h0
  rw [Nat.add_zero] at hc
  have h01 : (1 : Int) ≤ n := by omega
  go_enter Try.func68, Try.ntmps68
  go_wp2
  go_loop [3, 4] (fun m i => ∃ (k : Nat) (v : Int), 1 ≤ k ∧ k ≤ n ∧ i = .int .i64 k ∧ m = .int .i64 v ∧ Least zs k v) (fun _ i => n - (intOf i).toNat)
  case atStart => exact ⟨1, _, by omega, by omega, rfl, rfl, least_first zs⟩
  case round =>
    obtain ⟨k, v, hk1, hk, rfl, rfl, hle⟩ := hrel
    by_cases hlt : k < n
    · obtain ⟨b', off', e, hc'⟩ := h.at_ hlt
      obtain ⟨rfl, rfl⟩ : b = b' ∧ off = off' := by injection e with e; injection e with e1 e2; exact ⟨e1, e2⟩
      clear e
      have HS := Lib.hid hle.step
      go_wp2
      go_round
      case rel => exact ⟨k + 1, _, by omega, by omega, by go_num, rfl, HS.out⟩
      case measure => simp [intOf]; omega
    · obtain rfl : k = n := by omega
      go_wp2
      go_ret
      exact ⟨v, hle, rfl, rfl⟩

/-! ### num.sizes -/
def szB (most : Int) (zs : List Int) : Bool := decide (0 ≤ most ∧ ∀ z ∈ zs, 0 ≤ z)
theorem least_all (zs : List Int) (v : Int) (h : Least zs zs.length v) : 0 ≤ v ↔ ∀ z ∈ zs, 0 ≤ z := by
  obtain ⟨⟨j, hj, e⟩, hl⟩ := h
  constructor
  · intro h0 z hz
    obtain ⟨i, hi, rfl⟩ := List.getElem_of_mem hz
    have := hl i hi
    simp [List.getD, hi] at this
    omega
  · intro h
    rw [← e]
    have : zs.getD j 0 = zs[j] := by simp [List.getD, hj]
    rw [this]; exact h _ (List.getElem_mem hj)
theorem sz_no (most : Int) (zs : List Int) (h : ¬ 0 ≤ most) : false = szB most zs := by unfold szB; simp [h]
theorem sz_nil (most : Int) (zs : List Int) (h : 0 ≤ most) (hz : zs.length = 0) : true = szB most zs := by
  have : zs = [] := List.eq_nil_of_length_eq_zero hz
  subst this; unfold szB; simp [h]
theorem sz_yes (most : Int) (zs : List Int) (n : Nat) (v : Int) (h : 0 ≤ most) (hn : zs.length = n) (hv : Least zs n v) : decide (0 ≤ v) = szB most zs := by
  subst hn
  have := least_all zs v hv
  unfold szB; simp only [h, true_and]
  exact decide_eq_decide.2 this
theorem sizes_any (most : Int) (A : Option Addr) (n c : Nat) (zs : List Int) (w : World) (h : Ints w A n zs) (hn : n ≤ 9223372036854775807) :
    Calls Try.prog 64 #[.int .i64 most, .slice A n c] w fun e w' => e = .returned (.bool (szB most zs)) ∧ w' = w := by
  have H := Lib.hid h
  clear h
  by_cases hm : 0 ≤ most
  · by_cases h0 : n = 0
    · subst h0
      go_enter Try.func64, Try.ntmps64
      go_wp2
      all_goals go_ret
      all_goals exact ⟨ret_bool (sz_nil most zs hm H.out.1), rfl⟩
    · have h1 : 0 < n := by omega
      have h2 : ((n : Int) == 0) = false := by simpa using h0
      go_enter Try.func64, Try.ntmps64
      go_wp2_with (go_at_call 68; refine (min_any _ _ _ zs _ H.out hn h1).mono ?_; rintro e w' ⟨v, hv, rfl, rfl⟩; have HV := Lib.hid hv; clear hv)
      all_goals go_ret
      all_goals exact ⟨ret_bool (sz_yes most zs n _ hm H.out.1 HV.out), rfl⟩
  · go_enter Try.func64, Try.ntmps64
    go_wp2
    all_goals go_ret
    all_goals exact ⟨ret_bool (sz_no most zs (by omega)), rfl⟩

/-! ### Product -/
def prodL : List Int → Int
  | [] => 1
  | z :: zs => z * prodL zs
theorem prodL_append (xs ys : List Int) : prodL (xs ++ ys) = prodL xs * prodL ys := by
  induction xs with
  | nil => simp [prodL]
  | cons x xs ih => simp [prodL, ih, Int.mul_assoc]
theorem prodL_take (zs : List Int) (k : Nat) (hk : k < zs.length) : prodL (zs.take (k + 1)) = prodL (zs.take k) * zs.getD k 0 := by
  rw [List.take_succ_eq_append_getElem hk, prodL_append]
  simp [prodL, List.getD, hk]
theorem prodL_zero {zs : List Int} (h : (0 : Int) ∈ zs) : prodL zs = 0 := by
  induction zs with
  | nil => simp at h
  | cons z zs ih =>
    rcases List.mem_cons.1 h with h | h
    · subst h; simp [prodL]
    · simp [prodL, ih h]
theorem prodL_pos {zs : List Int} (h : ∀ z ∈ zs, 1 ≤ z) : 1 ≤ prodL zs := by
  induction zs with
  | nil => simp [prodL]
  | cons z zs ih =>
    have h1 := ih (fun y hy => h y (List.mem_cons.2 (.inr hy)))
    have h2 := h z (List.mem_cons.2 (.inl rfl))
    show 1 ≤ z * prodL zs
    have := Int.mul_le_mul h2 h1 (by omega) (by omega)
    simpa using this
theorem prodL_mono (zs : List Int) (k : Nat) (h : ∀ z ∈ zs, 1 ≤ z) : prodL (zs.take k) ≤ prodL zs := by
  have e : prodL zs = prodL (zs.take k) * prodL (zs.drop k) := by rw [← prodL_append, List.take_append_drop]
  have h1 : 1 ≤ prodL (zs.take k) := prodL_pos fun z hz => h z (List.mem_of_mem_take hz)
  have h2 : 1 ≤ prodL (zs.drop k) := prodL_pos fun z hz => h z (List.mem_of_mem_drop hz)
  rw [e]
  have := Int.mul_le_mul_of_nonneg_left h2 (show 0 ≤ prodL (zs.take k) by omega)
  simpa using this
/-- is the product told? -/
def prB (most : Int) (zs : List Int) : Bool := szB most zs && decide (prodL zs ≤ most)
def pr (most : Int) (zs : List Int) : Int := if prB most zs = true then prodL zs else 0
theorem pr_size (most : Int) (zs : List Int) (h : szB most zs = false) : Ending.returned (.tuple #[.int .i64 0, .bool false]) = .returned (.tuple #[.int .i64 (pr most zs), .bool (prB most zs)]) := by
  have h1 : prB most zs = false := by unfold prB; rw [h]; rfl
  refine ret_two ?_ h1.symm
  unfold pr; rw [h1]; rfl
theorem sz_all {most : Int} {zs : List Int} (h : szB most zs = true) : 0 ≤ most ∧ ∀ z ∈ zs, 0 ≤ z := of_decide_eq_true h
theorem pr_zero (most : Int) (zs : List Int) (h : szB most zs = true) (hz : (0 : Int) ∈ zs) : Ending.returned (.tuple #[.int .i64 0, .bool true]) = .returned (.tuple #[.int .i64 (pr most zs), .bool (prB most zs)]) := by
  have h0 := prodL_zero hz
  have h1 : prB most zs = true := by unfold prB; rw [h, h0]; simpa using (sz_all h).1
  refine ret_two ?_ h1.symm
  unfold pr; rw [h1, h0]; rfl
theorem ones {most : Int} {zs : List Int} (h : szB most zs = true) (hz : ¬ (0 : Int) ∈ zs) : ∀ z ∈ zs, 1 ≤ z := fun z hm => by
  have := (sz_all h).2 z hm
  have : z ≠ 0 := fun e => hz (e ▸ hm)
  omega
theorem pr_over (most : Int) (zs : List Int) (h : most < prodL zs) : Ending.returned (.tuple #[.int .i64 0, .bool false]) = .returned (.tuple #[.int .i64 (pr most zs), .bool (prB most zs)]) := by
  have h1 : prB most zs = false := by unfold prB; simp; intro _; omega
  refine ret_two ?_ h1.symm
  unfold pr; rw [h1]; rfl
theorem pr_yes (most : Int) (zs : List Int) (h : szB most zs = true) (hz : prodL zs ≤ most) : Ending.returned (.tuple #[.int .i64 (prodL zs), .bool true]) = .returned (.tuple #[.int .i64 (pr most zs), .bool (prB most zs)]) := by
  have h1 : prB most zs = true := by unfold prB; simp [h, hz]
  refine ret_two ?_ h1.symm
  unfold pr; rw [h1]; rfl
/-- p times z passes most just if p passes most by z. -/
theorem quo_lt (p z most : Int) (hz : 1 ≤ z) : most / z < p ↔ most < p * z := Int.ediv_lt_iff_lt_mul (by omega)

theorem getD_mem {zs : List Int} {k : Nat} (hk : k < zs.length) : zs.getD k 0 ∈ zs := by
  have : zs.getD k 0 = zs[k] := by simp [List.getD, hk]
  rw [this]; exact List.getElem_mem hk
theorem getD_one {zs : List Int} (h : ∀ z ∈ zs, 1 ≤ z) {k : Nat} (hk : k < zs.length) : 1 ≤ zs.getD k 0 := h _ (getD_mem hk)
theorem product_any (most : Int) (A : Option Addr) (n c : Nat) (zs : List Int) (w : World) (h : Ints w A n zs) (hn : n ≤ 9223372036854775807) (hm : most ≤ 9223372036854775807) (hzs : ∀ z ∈ zs, I64 z) :
    Calls Try.prog 52 #[.int .i64 most, .slice A n c] w fun e w' => e = .returned (.tuple #[.int .i64 (pr most zs), .bool (prB most zs)]) ∧ w' = w := by
  have HI := Lib.hid h
  have HZ := Lib.hid hzs
  clear h hzs
  by_cases hs : szB most zs = true
  · have HS := Lib.hid hs
    have hm0 := (sz_all hs).1
    by_cases hz : (0 : Int) ∈ zs
    · go_enter Try.func52, Try.ntmps52
      go_wp2_with (first
        | (go_at_call 64; refine (sizes_any _ _ _ _ zs _ HI.out hn).mono ?_; rintro e w' ⟨rfl, rfl⟩)
        | (go_at_call 65; refine (contains_any _ _ _ zs _ _ HI.out hn).mono ?_; rintro e w' ⟨rfl, rfl⟩))
      all_goals go_ret2
      all_goals exact ⟨pr_zero most zs HS.out hz, rfl⟩
    · by_cases hm1 : most < 1
      · go_enter Try.func52, Try.ntmps52
        go_wp2_with (first
          | (go_at_call 64; refine (sizes_any _ _ _ _ zs _ HI.out hn).mono ?_; rintro e w' ⟨rfl, rfl⟩)
          | (go_at_call 65; refine (contains_any _ _ _ zs _ _ HI.out hn).mono ?_; rintro e w' ⟨rfl, rfl⟩))
        all_goals go_ret2
        all_goals exact ⟨pr_over most zs (by have := prodL_pos (ones HS.out hz); omega), rfl⟩
      · have hm2 : 1 ≤ most := by omega
        go_enter Try.func52, Try.ntmps52
        go_wp2_with (first
          | (go_at_call 64; refine (sizes_any _ _ _ _ zs _ HI.out hn).mono ?_; rintro e w' ⟨rfl, rfl⟩)
          | (go_at_call 65; refine (contains_any _ _ _ zs _ _ HI.out hn).mono ?_; rintro e w' ⟨rfl, rfl⟩))
        go_loop [6, 19] (fun p i => ∃ k : Nat, k ≤ n ∧ i = .int .i64 k ∧ p = .int .i64 (prodL (zs.take k)) ∧ prodL (zs.take k) ≤ most) (fun _ i => n - (intOf i).toNat)
        case atStart => exact ⟨0, by omega, rfl, by simp [prodL], by simpa [prodL] using hm2⟩
        case round =>
          obtain ⟨k, hk, rfl, rfl, hp⟩ := hrel
          by_cases hlt : k < n
          · obtain ⟨b, off, rfl, hc⟩ := HI.out.at_ hlt
            have hz1 := getD_one (ones HS.out hz) (k := k) (by rw [HI.out.1]; exact hlt)
            have hz2 := (HZ.out (zs.getD k 0) (getD_mem (by rw [HI.out.1]; exact hlt))).2
            have hp0 : 1 ≤ prodL (zs.take k) := prodL_pos fun z hz' => ones HS.out hz z (List.mem_of_mem_take hz')
            have HT := Lib.hid (prodL_take zs k (by rw [HI.out.1]; exact hlt))
            have HM := Lib.hid (prodL_mono zs (k + 1) (ones HS.out hz))
            generalize zs.getD k 0 = z at *
            generalize hP : prodL (zs.take k) = P at *
            have HP := Lib.hid hP
            clear hP
            have hm3 : 0 ≤ most / z ∧ most / z ≤ most := ⟨Int.ediv_nonneg (by omega) (by omega), Int.ediv_le_self _ (by omega)⟩
            obtain ⟨hm4, hm5⟩ := hm3
            by_cases hgo : P * z ≤ most
            · have hq : P ≤ most / z := by have := quo_lt P z most hz1; omega
              have hw : wrap64 (P * z) = P * z := wrap64_le _ (by have := Int.mul_nonneg (show 0 ≤ P by omega) (show 0 ≤ z by omega); omega) (by omega)
              have HW := Lib.hid hw
              have HG := Lib.hid hgo
              clear hw hgo
              go_wp2
              go_round
              case rel => exact ⟨k + 1, by omega, by go_num, by rw [HW.out, HT.out], by rw [HT.out]; exact HG.out⟩
              case measure => simp [intOf]; omega
            · have hq : most / z < P := by rw [quo_lt _ _ _ hz1]; omega
              have HG := Lib.hid hgo
              clear hgo
              go_wp2
              go_ret2
              exact ⟨pr_over most zs (by have h1 := HM.out; have h2 := HG.out; rw [HT.out] at h1; omega), rfl⟩
          · obtain rfl : k = n := by omega
            go_wp2
            go_ret2
            have hall : zs.take k = zs := List.take_of_length_le (by rw [HI.out.1]; exact Nat.le_refl _)
            exact ⟨by rw [hall] at hp ⊢; exact pr_yes most zs HS.out hp, rfl⟩
  · have hs' : szB most zs = false := by simpa using hs
    have HS := Lib.hid hs'
    clear hs
    go_enter Try.func52, Try.ntmps52
    go_wp2_with (go_at_call 64; refine (sizes_any _ _ _ _ zs _ HI.out hn).mono ?_; rintro e w' ⟨rfl, rfl⟩)
    all_goals go_ret2
    all_goals exact ⟨pr_size most zs HS.out, rfl⟩

/-! ### Total -/
def sumL : List Int → Int
  | [] => 0
  | z :: zs => z + sumL zs
theorem sumL_append (xs ys : List Int) : sumL (xs ++ ys) = sumL xs + sumL ys := by
  induction xs with
  | nil => simp [sumL]
  | cons x xs ih => simp [sumL, ih, Int.add_assoc]
theorem sumL_take (zs : List Int) (k : Nat) (hk : k < zs.length) : sumL (zs.take (k + 1)) = sumL (zs.take k) + zs.getD k 0 := by
  rw [List.take_succ_eq_append_getElem hk, sumL_append]
  simp [sumL, List.getD, hk]
theorem sumL_nonneg {zs : List Int} (h : ∀ z ∈ zs, 0 ≤ z) : 0 ≤ sumL zs := by
  induction zs with
  | nil => simp [sumL]
  | cons z zs ih =>
    have h1 := ih (fun y hy => h y (List.mem_cons.2 (.inr hy)))
    have h2 := h z (List.mem_cons.2 (.inl rfl))
    show 0 ≤ z + sumL zs
    omega
theorem sumL_mono (zs : List Int) (k : Nat) (h : ∀ z ∈ zs, 0 ≤ z) : sumL (zs.take k) ≤ sumL zs := by
  have e : sumL zs = sumL (zs.take k) + sumL (zs.drop k) := by rw [← sumL_append, List.take_append_drop]
  have h2 : 0 ≤ sumL (zs.drop k) := sumL_nonneg fun z hz => h z (List.mem_of_mem_drop hz)
  omega
def tlB (most : Int) (zs : List Int) : Bool := szB most zs && decide (sumL zs ≤ most)
def tl (most : Int) (zs : List Int) : Int := if tlB most zs = true then sumL zs else 0
theorem tl_no (most : Int) (zs : List Int) (h1 : tlB most zs = false) : Ending.returned (.tuple #[.int .i64 0, .bool false]) = .returned (.tuple #[.int .i64 (tl most zs), .bool (tlB most zs)]) := by
  refine ret_two ?_ h1.symm
  unfold tl; rw [h1]; rfl
theorem tl_size (most : Int) (zs : List Int) (h : szB most zs = false) : tlB most zs = false := by unfold tlB; rw [h]; rfl
theorem tl_over (most : Int) (zs : List Int) (h : most < sumL zs) : tlB most zs = false := by unfold tlB; simp; intro _; omega
theorem tl_yes (most : Int) (zs : List Int) (h : szB most zs = true) (hz : sumL zs ≤ most) : Ending.returned (.tuple #[.int .i64 (sumL zs), .bool true]) = .returned (.tuple #[.int .i64 (tl most zs), .bool (tlB most zs)]) := by
  have h1 : tlB most zs = true := by unfold tlB; simp [h, hz]
  refine ret_two ?_ h1.symm
  unfold tl; rw [h1]; rfl

theorem all_take (zs : List Int) (k : Nat) (hk : k < zs.length) (h : ∀ z ∈ zs.take k, 0 ≤ z) : 0 ≤ zs.getD k 0 → ∀ z ∈ zs.take (k + 1), 0 ≤ z := by
  intro h0 z hz
  rw [List.take_succ_eq_append_getElem hk, List.mem_append] at hz
  rcases hz with hz | hz
  · exact h z hz
  · have : zs.getD k 0 = zs[k] := by simp [List.getD, hk]
    simp at hz
    rw [hz, ← this]; exact h0
theorem sz_neg (most : Int) (zs : List Int) (z : Int) (hm : z ∈ zs) (h : z < 0) : szB most zs = false :=
  decide_eq_false fun hh => by have := hh.2 z hm; omega
def RefPr (most : Int) (zs : List Int) (w : World) (e : Ending) (w' : World) : Prop :=
  ∃ p : Int, (prB most zs = true → p = prodL zs) ∧ e = .returned (.tuple #[.int .i64 p, .bool (prB most zs)]) ∧ ∃ m, w' = w.drewN m
theorem refPr_no (most : Int) (zs : List Int) (w : World) (p : Int) (m : Nat) (h : prB most zs = false) : RefPr most zs w (.returned (.tuple #[.int .i64 p, .bool false])) (w.drewN m) :=
  ⟨p, fun h' => (by rw [h] at h'; cases h'), by rw [h], m, rfl⟩
theorem refPr_yes (most : Int) (zs : List Int) (w : World) (p : Int) (m : Nat) (h : szB most zs = true) (hp : p = prodL zs) (b : Bool) (hb : b = decide (p ≤ most)) : RefPr most zs w (.returned (.tuple #[.int .i64 p, .bool b])) (w.drewN m) :=
  ⟨p, fun _ => hp, by rw [hb, hp]; unfold prB; rw [h, Bool.true_and], m, rfl⟩
theorem prB_size (most : Int) (zs : List Int) (h : szB most zs = false) : prB most zs = false := by unfold prB; rw [h]; rfl
theorem prB_over (most : Int) (zs : List Int) (h : most < prodL zs) : prB most zs = false := by unfold prB; simp; intro _; omega
theorem zero_take (zs : List Int) (k : Nat) (hk : k < zs.length) : (decide (0 ∈ zs.take k) || (zs.getD k 0 == 0)) = decide ((0 : Int) ∈ zs.take (k + 1)) := by
  have : zs.getD k 0 = zs[k] := by simp [List.getD, hk]
  rw [this]
  by_cases h0 : (0 : Int) ∈ zs.take k
  · have : (0 : Int) ∈ zs.take (k + 1) := by rw [List.take_succ_eq_append_getElem hk]; exact List.mem_append_left _ h0
    simp [h0, this]
  · by_cases h1 : zs[k] = 0
    · have : (0 : Int) ∈ zs.take (k + 1) := by rw [List.take_succ_eq_append_getElem hk, h1]; exact List.mem_append_right _ (by simp)
      simp [h1, this]
    · have : ¬ (0 : Int) ∈ zs.take (k + 1) := by
        rw [List.take_succ_eq_append_getElem hk, List.mem_append]
        rintro (h | h)
        · exact h0 h
        · simp at h; exact h1 h.symm
      have h2 : (zs[k] == 0) = false := by simpa using h1
      rw [h2]; simp [h0, this]

theorem i64_wrap_le (n : Int) (h1 : -9223372036854775808 ≤ n) (h2 : n ≤ 9223372036854775807) : IntKind.i64.wrap n = n := by
  rw [IntKind.wrap_i64]; omega
theorem refProduct_any (most : Int) (A : Option Addr) (n c : Nat) (zs : List Int) (w : World) (h : Ints w A n zs) (hn : n ≤ 9223372036854775807) (hm : most ≤ 9223372036854775807) (hzs : ∀ z ∈ zs, I64 z) :
    Calls Try.prog 34 #[.int .i64 most, .slice A n c] w (RefPr most zs w) := by
  have HI := Lib.hid h
  have HZ := Lib.hid hzs
  clear h hzs
  go_enter Try.func34, Try.ntmps34
  go_wp2
  go_loop [6, 7] (fun z i => ∃ k : Nat, k ≤ n ∧ i = .int .i64 k ∧ z = .bool (decide ((0 : Int) ∈ zs.take k)) ∧ ∀ z ∈ zs.take k, 0 ≤ z) (fun _ i => n - (intOf i).toNat)
  case atStart => exact ⟨0, by omega, rfl, by simp, by simp⟩
  case round =>
    obtain ⟨k, hk, rfl, rfl, hz⟩ := hrel
    have HA := Lib.hid hz
    clear hz
    by_cases hlt : k < n
    · obtain ⟨b, off, rfl, hc⟩ := HI.out.at_ hlt
      have hkl : k < zs.length := by rw [HI.out.1]; exact hlt
      have HN := Lib.hid (all_take zs k hkl HA.out)
      have HE := Lib.hid (getD_mem hkl)
      have HD := Lib.hid (zero_take zs k hkl)
      generalize zs.getD k 0 = z at *
      generalize hD : decide ((0 : Int) ∈ zs.take k) = d at *
      clear hD
      have HL := Lib.hid hkl
      clear hkl
      by_cases hneg : z < 0
      · go_wp2
        all_goals go_ret2
        all_goals exact refPr_no most zs w 0 0 (prB_size most zs (sz_neg most zs z HE.out hneg))
      · cases d
        all_goals
          go_wp2
          go_round
          case rel => exact ⟨k + 1, by omega, by go_num, by first | (rw [← HD.out]; rfl) | (rw [← HD.out, Bool.false_or]), HN.out (by omega)⟩
          case measure => simp [intOf]; omega
    · obtain rfl : k = n := by omega
      have hall : zs.take k = zs := List.take_of_length_le (by rw [HI.out.1]; exact Nat.le_refl _)
      rw [hall] at HA ⊢
      clear hall
      by_cases hneg : most < 0
      · go_wp2
        go_ret2
        exact refPr_no most zs w 0 0 (prB_size most zs (decide_eq_false fun h => by omega))
      · have HS := Lib.hid (show szB most zs = true from decide_eq_true ⟨by omega, HA.out⟩)
        by_cases hz : (0 : Int) ∈ zs
        · go_wp2
          go_ret2
          exact refPr_yes most zs w 0 0 HS.out (prodL_zero hz).symm true (by simp; omega)
        · have HO := Lib.hid (ones HS.out hz)
          go_wp2
          go_loopw [8, 9] (fun p i wr => ∃ (j m : Nat), j ≤ k ∧ i = .int .i64 j ∧ p = .int .i64 (prodL (zs.take j)) ∧ prodL (zs.take j) ≤ 9223372036854775807 ∧ (1 ≤ j → prodL (zs.take j) ≤ most) ∧ wr = w.drewN m) (fun _ i _ => k - (intOf i).toNat)
          case atStart => exact ⟨0, 0, by omega, rfl, by simp [prodL], by simp [prodL], by omega, rfl⟩
          case round =>
            obtain ⟨j, m, hj, rfl, rfl, hp, hp1, rfl⟩ := hrel
            have hp0 : 1 ≤ prodL (zs.take j) := prodL_pos fun z hz' => HO.out z (List.mem_of_mem_take hz')
            by_cases hlt : j < k
            · obtain ⟨b, off, rfl, hc⟩ := HI.out.at_ hlt
              have hz1 := getD_one HO.out (k := j) (by rw [HI.out.1]; exact hlt)
              have hz2 := (HZ.out (zs.getD j 0) (getD_mem (by rw [HI.out.1]; exact hlt))).2
              have HT := Lib.hid (prodL_take zs j (by rw [HI.out.1]; exact hlt))
              have HM := Lib.hid (prodL_mono zs (j + 1) HO.out)
              generalize zs.getD j 0 = z at *
              generalize hP : prodL (zs.take j) = P at *
              have HP := Lib.hid hP
              clear hP
              have hm3 : 0 ≤ most / P ∧ most / P ≤ most := ⟨Int.ediv_nonneg (by omega) (by omega), Int.ediv_le_self _ (by omega)⟩
              obtain ⟨hm4, hm5⟩ := hm3
              have hpn : (P == 0) = false := by simp; omega
              have hqd : IntKind.i64.wrap (most.tdiv P) = most / P := by
                rw [Int.tdiv_eq_ediv_of_nonneg (by omega)]
                exact i64_wrap_le (most / P) (by omega) (by omega)
              clear hp1
              by_cases hgo : z * P ≤ most
              · have hq : z ≤ most / P := by have := quo_lt z P most hp0; omega
                have hw : wrap64 (P * z) = P * z := wrap64_le _ (by have := Int.mul_nonneg (show 0 ≤ P by omega) (show 0 ≤ z by omega); omega) (by rw [Int.mul_comm]; omega)
                have HW := Lib.hid hw
                have HG := Lib.hid hgo
                clear hw hgo
                go_wp2
                go_quiet (fail)
                go_wp2
                go_roundw
                case rel => exact ⟨j + 1, _, by omega, by go_num, by rw [HW.out, HT.out], by rw [HT.out, Int.mul_comm]; have := HG.out; omega, fun _ => by rw [HT.out, Int.mul_comm]; exact HG.out, rfl⟩
                case measure => simp [intOf]; omega
              · have hq : most / P < z := by rw [quo_lt _ _ _ hp0]; omega
                have HG := Lib.hid hgo
                clear hgo
                go_wp2
                go_quiet (fail)
                go_wp2
                go_ret2
                rw [World.drewN_drewN]
                exact refPr_no most zs w 0 _ (prB_over most zs (by have h1 := HM.out; have h2 := HG.out; rw [HT.out, Int.mul_comm] at h1; omega))
            · obtain rfl : j = k := by omega
              go_wp2
              go_ret2
              have hall : zs.take j = zs := List.take_of_length_le (by rw [HI.out.1]; exact Nat.le_refl _)
              exact refPr_yes most zs w _ m HS.out (by rw [hall]) _ rfl
end Go.Proofs.Ytdjenakmdjiknaa
end

/-! Layer 7, plain: shapes as lists of numbers: right, how many cells, strides, places, and what P703 and P704 say. -/
section
namespace Go.Proofs.Ytdjenakmdjiknaa
open Go.ChangeShapes Go.WideShapes Go.ChangeAt Go.RowKit
set_option linter.unusedVariables false
set_option maxRecDepth 100000

def rightS (s : List Int) : Bool := decide ((∀ z ∈ s, 0 ≤ z ∧ z ≤ 1048576) ∧ s.length ≤ 6)
theorem right_all {s : List Int} (h : rightS s = true) : (∀ z ∈ s, 0 ≤ z ∧ z ≤ 1048576) ∧ s.length ≤ 6 := of_decide_eq_true h
theorem right_at {s : List Int} (h : rightS s = true) {i : Nat} (hi : i < s.length) : 0 ≤ s.getD i 0 ∧ s.getD i 0 ≤ 1048576 := (right_all h).1 _ (getD_mem hi)
theorem right_i64 {s : List Int} (h : rightS s = true) : ∀ z ∈ s, I64 z := fun z hz => by have := (right_all h).1 z hz; unfold I64; omega
theorem right_by {s : List Int} {b : Bool} (h1 : ∀ i, i < s.length → 0 ≤ s.getD i 0 ∧ s.getD i 0 ≤ 1048576) (h2 : b = decide (s.length ≤ 6)) : b = rightS s := by
  subst h2
  unfold rightS
  rw [decide_eq_decide]
  refine ⟨fun h => ⟨fun z hz => ?_, h⟩, fun h => h.2⟩
  obtain ⟨i, hi, rfl⟩ := List.getElem_of_mem hz
  have := h1 i hi
  simpa [List.getD, hi] using this
theorem right_not {s : List Int} {i : Nat} (hi : i < s.length) (h : ¬ (0 ≤ s.getD i 0 ∧ s.getD i 0 ≤ 1048576)) : false = rightS s := by
  cases hb : rightS s with
  | false => rfl
  | true => exact absurd (right_at hb hi) h

/-! ### Size -/
def sizeB (s : List Int) (most : Int) : Bool := rightS s && prB (min most 1048576) s
def sizeV (s : List Int) (most : Int) : Int := if sizeB s most = true then prodL s else 0
theorem size_no {s : List Int} {most : Int} (h : sizeB s most = false) : sizeV s most = 0 := by unfold sizeV; rw [h]; rfl
theorem size_yes {s : List Int} {most : Int} (h : sizeB s most = true) : sizeV s most = prodL s := by unfold sizeV; rw [if_pos h]
/-- the whole: all cells of a right shape, as many as there may be. -/
def full (s : List Int) : Bool := sizeB s 1048576
theorem full_all {s : List Int} (h : full s = true) : rightS s = true ∧ prodL s ≤ 1048576 := by
  unfold full sizeB prB at h
  simp only [Bool.and_eq_true, decide_eq_true_eq] at h
  exact ⟨h.1, by have := h.2.2; omega⟩
theorem prod_nonneg {s : List Int} (h : ∀ z ∈ s, 0 ≤ z) : 0 ≤ prodL s := by
  induction s with
  | nil => simp [prodL]
  | cons z s ih => exact Int.mul_nonneg (h z (by simp)) (ih fun y hy => h y (by simp [hy]))
theorem sz_of_right {s : List Int} (h : rightS s = true) {most : Int} (hm : 0 ≤ most) : szB most s = true := by
  unfold szB
  exact decide_eq_true ⟨hm, fun z hz => ((right_all h).1 z hz).1⟩

/-! ### Strides -/
/-- by how much the axis j counts, from the end on. -/
def strE (s : List Int) : Nat → Int
  | 0 => 1
  | j + 1 => strE s j * max 1 (s.getD (s.length - 1 - j) 0)
theorem str_pos (s : List Int) : ∀ j, 1 ≤ strE s j
  | 0 => Int.le_refl _
  | j + 1 => by
    have ih := str_pos s j
    rw [strE]
    have h2 : (1 : Int) ≤ max 1 (s.getD (s.length - 1 - j) 0) := by omega
    have := Int.mul_le_mul ih h2 (by omega) (by omega)
    simpa using this
theorem str_up (s : List Int) (j : Nat) : strE s j ≤ strE s (j + 1) := by
  have h1 := str_pos s j
  have h2 : (1 : Int) ≤ max 1 (s.getD (s.length - 1 - j) 0) := by omega
  have := Int.mul_le_mul_of_nonneg_left h2 (show 0 ≤ strE s j by omega)
  rw [strE]
  simpa using this
theorem str_mono (s : List Int) {i : Nat} : ∀ j, i ≤ j → strE s i ≤ strE s j
  | 0, h => by obtain rfl : i = 0 := by omega
               exact Int.le_refl _
  | j + 1, h => by
    by_cases e : i = j + 1
    · subst e; exact Int.le_refl _
    · exact Int.le_trans (str_mono s j (by omega)) (str_up s j)
def strB (s : List Int) : Bool := rightS s && decide (strE s (s.length - 1) ≤ 1048576)
def stridesL (s : List Int) : List Int := if strB s then (List.range s.length).map fun i => strE s (s.length - 1 - i) else []

/-! ### places -/
def hasB (s at' : List Int) : Bool := rightS s && decide (at'.length = s.length ∧ ∀ i, i < s.length → 0 ≤ at'.getD i 0 ∧ at'.getD i 0 < s.getD i 0)
theorem has_all {s at' : List Int} (h : hasB s at' = true) : rightS s = true ∧ at'.length = s.length ∧ ∀ i, i < s.length → 0 ≤ at'.getD i 0 ∧ at'.getD i 0 < s.getD i 0 := by
  unfold hasB at h
  simp only [Bool.and_eq_true, decide_eq_true_eq] at h
  exact h
theorem has_by {s at' : List Int} (h1 : rightS s = true) (h2 : at'.length = s.length) (h3 : ∀ i, i < s.length → 0 ≤ at'.getD i 0 ∧ at'.getD i 0 < s.getD i 0) : hasB s at' = true := by
  unfold hasB
  simp only [Bool.and_eq_true, decide_eq_true_eq]
  exact ⟨h1, h2, h3⟩
theorem has_not {s at' : List Int} (h : ¬ (rightS s = true ∧ at'.length = s.length ∧ ∀ i, i < s.length → 0 ≤ at'.getD i 0 ∧ at'.getD i 0 < s.getD i 0)) : hasB s at' = false := by
  cases hb : hasB s at' with
  | false => rfl
  | true => exact absurd (has_all hb) h
def hornE (s at' : List Int) : Nat → Int
  | 0 => 0
  | k + 1 => hornE s at' k * s.getD k 0 + at'.getD k 0
theorem horn_in {s at' : List Int} (h : ∀ i, i < s.length → 0 ≤ at'.getD i 0 ∧ at'.getD i 0 < s.getD i 0) : ∀ k, k ≤ s.length → 0 ≤ hornE s at' k ∧ hornE s at' k < prodL (s.take k)
  | 0, _ => by simp [hornE, prodL]
  | k + 1, hk => by
    have ih := horn_in h k (by omega)
    have hh := h k (by omega)
    rw [prodL_take s k (by omega), hornE]
    generalize hornE s at' k = x at *
    generalize prodL (s.take k) = P at *
    generalize s.getD k 0 = z at *
    generalize at'.getD k 0 = y at *
    have h1 := Int.mul_nonneg ih.1 (show 0 ≤ z by omega)
    have h2 := Int.mul_le_mul_of_nonneg_right (show x + 1 ≤ P by omega) (show 0 ≤ z by omega)
    rw [Int.add_mul, Int.one_mul] at h2
    omega
def placeB (s at' : List Int) : Bool := full s && hasB s at'
def placeV (s at' : List Int) : Int := if placeB s at' = true then hornE s at' s.length else 0
theorem place_no {s at' : List Int} (h : placeB s at' = false) : placeV s at' = 0 := by unfold placeV; rw [h]; rfl
theorem place_yes {s at' : List Int} (h : placeB s at' = true) : placeV s at' = hornE s at' s.length := by unfold placeV; rw [if_pos h]
theorem place_in {s at' : List Int} (h : placeB s at' = true) : 0 ≤ placeV s at' ∧ placeV s at' < prodL s := by
  rw [place_yes h]
  unfold placeB at h
  simp only [Bool.and_eq_true] at h
  have := horn_in (has_all h.2).2.2 s.length (Nat.le_refl _)
  rw [List.take_of_length_le (Nat.le_refl _)] at this
  exact this
/-- what is left of a count, the last j axes gone. -/
def restE (s : List Int) (p : Int) : Nat → Int
  | 0 => p
  | j + 1 => restE s p j / s.getD (s.length - 1 - j) 0
def digE (s : List Int) (p : Int) (i : Nat) : Int := restE s p (s.length - 1 - i) % s.getD i 0
def atB (s : List Int) (p : Int) : Bool := full s && decide (0 ≤ p ∧ p < prodL s)
def atL (s : List Int) (p : Int) : List Int := if atB s p then (List.range s.length).map (digE s p) else []
theorem at_all {s : List Int} {p : Int} (h : atB s p = true) : full s = true ∧ 0 ≤ p ∧ p < prodL s := by
  unfold atB at h
  simp only [Bool.and_eq_true, decide_eq_true_eq] at h
  exact h
/-- where there is a count below the size, each length is at least 1. -/
theorem at_ones {s : List Int} {p : Int} (h : atB s p = true) : ∀ z ∈ s, 1 ≤ z := fun z hz => by
  obtain ⟨h1, h2, h3⟩ := at_all h
  have := ((right_all (full_all h1).1).1 z hz).1
  by_cases e : z = 0
  · subst e
    have := prodL_zero hz
    omega
  · omega
theorem atL_get {s : List Int} {p : Int} (h : atB s p = true) {i : Nat} (hi : i < s.length) : (atL s p).getD i 0 = digE s p i := by
  unfold atL
  rw [if_pos h]
  simp [List.getD, hi]
theorem atL_length {s : List Int} {p : Int} (h : atB s p = true) : (atL s p).length = s.length := by
  unfold atL
  rw [if_pos h]
  simp
theorem rest_in {s : List Int} {p : Int} (h1 : ∀ z ∈ s, 1 ≤ z) (h0 : 0 ≤ p) (hp : p < prodL s) : ∀ j, j ≤ s.length → 0 ≤ restE s p j ∧ restE s p j < prodL (s.take (s.length - j))
  | 0, _ => by rw [Nat.sub_zero, List.take_of_length_le (Nat.le_refl _)]; exact ⟨h0, hp⟩
  | j + 1, hj => by
    have ih := rest_in h1 h0 hp j (by omega)
    have hz := getD_one h1 (k := s.length - 1 - j) (by omega)
    have e : s.length - j = s.length - 1 - j + 1 := by omega
    rw [e, prodL_take s (s.length - 1 - j) (by omega)] at ih
    rw [restE, show s.length - (j + 1) = s.length - 1 - j by omega]
    generalize restE s p j = x at *
    generalize s.getD (s.length - 1 - j) 0 = z at *
    generalize prodL (s.take (s.length - 1 - j)) = P at *
    exact ⟨Int.ediv_nonneg ih.1 (by omega), Int.ediv_lt_of_lt_mul (by omega) ih.2⟩
/-- P704: the place of a count has that count. -/
theorem place_of_at {s : List Int} {p : Int} (h : atB s p = true) : placeB s (atL s p) = true ∧ placeV s (atL s p) = p := by
  have hall := at_all h
  have h1 := at_ones h
  have hl := atL_length h
  have hg := fun i hi => atL_get h (i := i) hi
  have hhas : hasB s (atL s p) = true := has_by (full_all hall.1).1 hl (fun i hi => by
    rw [hg i hi]
    have hz := getD_one h1 hi
    unfold digE
    exact ⟨Int.emod_nonneg _ (by omega), Int.emod_lt_of_pos _ (by omega)⟩)
  have hp : placeB s (atL s p) = true := by unfold placeB; rw [hall.1, hhas]; rfl
  refine ⟨hp, ?_⟩
  rw [place_yes hp]
  have key : ∀ k, k ≤ s.length → hornE s (atL s p) k = restE s p (s.length - k) := by
    intro k
    induction k with
    | zero =>
      intro _
      have hr := rest_in h1 hall.2.1 hall.2.2 s.length (Nat.le_refl _)
      rw [Nat.sub_self, List.take_zero] at hr
      simp only [prodL] at hr
      rw [Nat.sub_zero, hornE]
      omega
    | succ k ih =>
      intro hk
      have ih := ih (by omega)
      rw [hornE, ih, hg k (by omega), digE, show s.length - k = (s.length - 1 - k) + 1 by omega, restE, show s.length - 1 - (s.length - 1 - k) = k by omega, show s.length - (k + 1) = s.length - 1 - k by omega]
      rw [Int.mul_comm]
      exact Int.mul_ediv_add_emod _ _
  rw [key s.length (Nat.le_refl _), Nat.sub_self]
  rfl
/-- P704: the count of a place has that place. -/
theorem at_of_place {s at' : List Int} (h : placeB s at' = true) : atB s (placeV s at') = true ∧ atL s (placeV s at') = at' := by
  have hin := place_in h
  have hfu : full s = true := by unfold placeB at h; simp only [Bool.and_eq_true] at h; exact h.1
  have hhas : hasB s at' = true := by unfold placeB at h; simp only [Bool.and_eq_true] at h; exact h.2
  have ha : atB s (placeV s at') = true := by
    unfold atB
    simp only [Bool.and_eq_true, decide_eq_true_eq]
    exact ⟨hfu, hin⟩
  refine ⟨ha, ?_⟩
  obtain ⟨_, hl, hb⟩ := has_all hhas
  have key : ∀ j, j ≤ s.length → restE s (placeV s at') j = hornE s at' (s.length - j) := by
    intro j
    induction j with
    | zero => intro _; rw [Nat.sub_zero, restE, place_yes h]
    | succ j ih =>
      intro hj
      rw [restE, ih (by omega), show s.length - j = (s.length - (j + 1)) + 1 by omega, hornE, show s.length - 1 - j = s.length - (j + 1) by omega]
      have := hb (s.length - (j + 1)) (by omega)
      generalize hornE s at' (s.length - (j + 1)) = x at *
      generalize s.getD (s.length - (j + 1)) 0 = z at *
      generalize at'.getD (s.length - (j + 1)) 0 = y at *
      rw [Int.mul_comm, Int.add_comm, Int.add_mul_ediv_left _ _ (by omega), Int.ediv_eq_zero_of_lt this.1 this.2]
      omega
  apply List.ext_getElem
  · rw [atL_length ha, hl]
  · intro i h1 h2
    have hi : i < s.length := by rw [atL_length ha] at h1; exact h1
    have e1 := atL_get ha hi
    have e2 : at'.getD i 0 = at'[i] := by simp [List.getD, h2]
    have e3 : (atL s (placeV s at')).getD i 0 = (atL s (placeV s at'))[i] := by simp [List.getD, h1]
    rw [← e3, ← e2, e1, digE, key _ (by omega), show s.length - (s.length - 1 - i) = i + 1 by omega, hornE]
    have := hb i hi
    generalize hornE s at' i = x at *
    generalize s.getD i 0 = z at *
    generalize at'.getD i 0 = y at *
    rw [Int.add_comm, Int.add_mul_emod_self_right]
    exact Int.emod_eq_of_lt this.1 this.2

/-! ### other shapes -/
def withoutB (s : List Int) (axis : Int) : Bool := rightS s && decide (0 ≤ axis ∧ axis < s.length)
def withoutL (s : List Int) (axis : Int) : List Int := if withoutB s axis then s.take axis.toNat ++ s.drop (axis.toNat + 1) else []
def withB (s : List Int) (axis n : Int) : Bool := rightS s && decide (0 ≤ axis ∧ axis ≤ s.length ∧ 0 ≤ n ∧ n ≤ 1048576 ∧ s.length < 6)
def withL (s : List Int) (axis n : Int) : List Int := if withB s axis n then s.take axis.toNat ++ [n] ++ s.drop axis.toNat else []
def axesP (n : Nat) (axes : List Int) (k : Nat) : Prop := ∀ i, i < k → (0 ≤ axes.getD i 0 ∧ axes.getD i 0 < n) ∧ ∀ j, j < i → axes.getD j 0 ≠ axes.getD i 0
instance (n : Nat) (axes : List Int) (k : Nat) : Decidable (axesP n axes k) := by unfold axesP; infer_instance
def permB (s axes : List Int) : Bool := rightS s && decide (axes.length = s.length) && decide (axesP s.length axes s.length)
def permL (s axes : List Int) : List Int := if permB s axes then axes.map fun a => s.getD a.toNat 0 else []
def joinP (a b : List Int) (k : Nat) : Prop := ∀ i, i < k → a.getD i 0 = b.getD i 0 ∨ b.getD i 0 = 1 ∨ a.getD i 0 = 1
instance (a b : List Int) (k : Nat) : Decidable (joinP a b k) := by unfold joinP; infer_instance
def joinB (a b : List Int) : Bool := rightS a && rightS b && decide (a.length = b.length) && decide (joinP a b a.length)
def joinV (x y : Int) : Int := if x = y ∨ y = 1 then x else y
def joinL (a b : List Int) : List Int := if joinB a b then (List.range a.length).map fun i => joinV (a.getD i 0) (b.getD i 0) else []
end Go.Proofs.Ytdjenakmdjiknaa
end
