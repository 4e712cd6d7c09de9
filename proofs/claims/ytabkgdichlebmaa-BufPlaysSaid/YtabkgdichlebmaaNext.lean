/-
  math/bits.TrailingZeros64; bits.Next and its reference.
-/
import Derived.Test.YtabkgdichlebmaaCount
import Derived.Lib.TrailingZeros
namespace Go.Proofs.Ytabkgdichlebmaa
open Go.ChangeShapes Go.WideShapes Go.ChangeAt Go.RowKit
set_option linter.unusedVariables false

/-- the lowest bit's place in the table. -/
def tzAt (k : Nat) : Nat := 2 ^ k * 285870213051353865 % 18446744073709551616 / 288230376151711744
theorem tz_place (x k : Nat) (hx : x < 18446744073709551616) (hx0 : 0 < x) (hlow : x &&& (18446744073709551616 - x) = 2 ^ k) (m : Nat) (hm : tzAt k = m) :
    IntKind.u64.wrap (bits BinOp.and IntKind.u64 (x : Int) (IntKind.u64.wrap (-(x : Int))) * 285870213051353865) / 288230376151711744 = (m : Int) := by
  have e1 : IntKind.u64.wrap (-(x : Int)) = ((18446744073709551616 - x : Nat) : Int) := by rw [IntKind.wrap_u64]; omega
  unfold tzAt at hm
  rw [e1, u64_and_nat _ _ hx (by omega), hlow, IntKind.wrap_u64, ← hm]
  generalize 2 ^ k = q
  omega
/-- where it is b from F on, in word x. -/
def cand (l : List Bool) (F : Nat) (b : Bool) (x : Nat) : Nat := bitsOf (fun c => (l.getD (64 * x + c) false == b) && decide (F ≤ 64 * x + c)) 64
theorem cand_bit (l : List Bool) (F : Nat) (b : Bool) (x c : Nat) (hc : c < 64) : (cand l F b x).testBit c = ((l.getD (64 * x + c) false == b) && decide (F ≤ 64 * x + c)) := by
  unfold cand; rw [bitsOf_bit]; simp [hc]
theorem cand_lt (l : List Bool) (F : Nat) (b : Bool) (x : Nat) : cand l F b x < 18446744073709551616 := bitsOf_lt _ 64
theorem eq_cand {y : Nat} (l : List Bool) (F : Nat) (b : Bool) (x : Nat) (hy : y < 18446744073709551616) (h : ∀ c, c < 64 → y.testBit c = ((l.getD (64 * x + c) false == b) && decide (F ≤ 64 * x + c))) : y = cand l F b x := eq_bitsOf hy h
def inv (v : Nat) : Nat := 18446744073709551615 ^^^ v
theorem inv_lt {v : Nat} (h : v < 18446744073709551616) : inv v < 18446744073709551616 := Nat.xor_lt_two_pow (n := 64) (by omega) h
theorem inv_bit (v c : Nat) (hc : c < 64) : (inv v).testBit c = !v.testBit c := by
  unfold inv
  rw [Nat.testBit_xor, show (18446744073709551615 : Nat) = 2 ^ 64 - 1 by decide, Nat.testBit_two_pow_sub_one]
  simp [hc]
theorem inv_eq (v : Nat) (h : v < 18446744073709551616) : bits BinOp.xor IntKind.u64 IntKind.u64.max (v : Int) = ((inv v : Nat) : Int) := by
  rw [show IntKind.u64.max = ((18446744073709551615 : Nat) : Int) by decide, u64_xor_nat _ _ (by omega) h]; rfl
def upM (s : Nat) : Nat := bitsOf (fun c => decide (s ≤ c)) 64
theorem upM_lt (s : Nat) : upM s < 18446744073709551616 := bitsOf_lt _ 64
theorem upM_bit (s c : Nat) (hc : c < 64) : (upM s).testBit c = decide (s ≤ c) := by unfold upM; rw [bitsOf_bit]; simp [hc]
theorem upM_eq (s : Nat) : IntKind.u64.wrap (18446744073709551615 * 2 ^ s) = ((upM s : Nat) : Int) := by
  have e : 18446744073709551615 * 2 ^ s % 18446744073709551616 = upM s := by
    refine eq_bitsOf (Nat.mod_lt _ (by omega)) fun b hb => ?_
    rw [show (18446744073709551616 : Nat) = 2 ^ 64 by decide, Nat.testBit_mod_two_pow, Nat.testBit_mul_two_pow, show (18446744073709551615 : Nat) = 2 ^ 64 - 1 by decide, Nat.testBit_two_pow_sub_one, Bool.eq_iff_iff]
    simp
    omega
  have e2 : (18446744073709551615 : Int) * 2 ^ s = ((18446744073709551615 * 2 ^ s : Nat) : Int) := by simp
  rw [e2, IntKind.wrap_u64, ← e]
  omega
theorem and_eq (a b : Nat) (ha : a < 18446744073709551616) (hb : b < 18446744073709551616) : bits BinOp.and IntKind.u64 (a : Int) (b : Int) = ((a &&& b : Nat) : Int) := u64_and_nat a b ha hb
theorem and_lt {a : Nat} (b : Nat) (ha : a < 18446744073709551616) : a &&& b < 18446744073709551616 := Nat.lt_of_le_of_lt Nat.and_le_left ha
theorem cand_tt_far (l : List Bool) (F x : Nat) (h : F / 64 < x) : word l x = cand l F true x :=
  eq_cand l F true x (word_lt _ _) fun c hc => by rw [word_bit _ _ _ hc]; simp; intro _; omega
theorem cand_ff_far (l : List Bool) (F x : Nat) (h : F / 64 < x) : inv (word l x) = cand l F false x :=
  eq_cand l F false x (inv_lt (word_lt _ _)) fun c hc => by
    rw [inv_bit _ _ hc, word_bit _ _ _ hc]
    have : decide (F ≤ 64 * x + c) = true := decide_eq_true (by omega)
    rw [this]; cases l.getD (64 * x + c) false <;> rfl
theorem cand_tt_at (l : List Bool) (F x : Nat) (h : x = F / 64) : word l x &&& upM (F % 64) = cand l F true x :=
  eq_cand l F true x (and_lt _ (word_lt _ _)) fun c hc => by
    rw [Nat.testBit_and, upM_bit _ _ hc, word_bit _ _ _ hc]
    have : decide (F ≤ 64 * x + c) = decide (F % 64 ≤ c) := decide_eq_decide.2 (by omega)
    rw [this]; simp
theorem cand_ff_at (l : List Bool) (F x : Nat) (h : x = F / 64) : inv (word l x) &&& upM (F % 64) = cand l F false x :=
  eq_cand l F false x (and_lt _ (inv_lt (word_lt _ _))) fun c hc => by
    rw [Nat.testBit_and, upM_bit _ _ hc, inv_bit _ _ hc, word_bit _ _ _ hc]
    have : decide (F ≤ 64 * x + c) = decide (F % 64 ≤ c) := decide_eq_decide.2 (by omega)
    rw [this]; cases l.getD (64 * x + c) false <;> rfl
/-- none so far. -/
def NoneTo (l : List Bool) (F : Nat) (b : Bool) (e : Nat) : Prop := ∀ j, F ≤ j → j < e → j < l.length → l.getD j false = !b
theorem none_more {l : List Bool} {F x : Nat} {b : Bool} (h : NoneTo l F b (64 * x)) (hz : cand l F b x = 0) : NoneTo l F b (64 * (x + 1)) := fun j h1 h2 h3 => by
  by_cases hj : j < 64 * x
  · exact h j h1 hj h3
  · have hb := cand_bit l F b x (j - 64 * x) (by omega)
    rw [hz, show 64 * x + (j - 64 * x) = j by omega] at hb
    have hd : decide (F ≤ j) = true := decide_eq_true h1
    rw [hd] at hb
    cases b <;> cases hl : l.getD j false <;> rw [hl] at hb <;> simp at hb <;> rfl
theorem ctz_bits (y : Nat) (h0 : y ≠ 0) (h : y < 18446744073709551616) : Lib.ctz 64 y < 64 ∧ y.testBit (Lib.ctz 64 y) = true ∧ ∀ c, c < Lib.ctz 64 y → y.testBit c = false := by
  obtain ⟨m, hm, hk⟩ := Lib.ctzFrom_spec 64 y (by omega) h
  have e : Lib.ctz 64 y = Lib.ctzFrom 64 y := by simp [Lib.ctz, h0]
  rw [e]
  generalize Lib.ctzFrom 64 y = t at *
  refine ⟨hk, ?_, fun c hc => ?_⟩
  · rw [hm, Nat.testBit_two_pow_mul]
    simp
  · rw [hm, Nat.testBit_two_pow_mul]
    simp
    omega
theorem next_found {l : List Bool} {F x t : Nat} {b : Bool} (h : NoneTo l F b (64 * x)) (ht : t = Lib.ctz 64 (cand l F b x)) (hz : cand l F b x ≠ 0) (hx : 64 * x < l.length) : IsNext l F b (min (x * 64 + t) l.length) := by
  obtain ⟨h1, h2, h3⟩ := ctz_bits _ hz (cand_lt _ _ _ _)
  rw [← ht] at h1 h2 h3
  rw [cand_bit _ _ _ _ _ h1] at h2
  rw [show x * 64 + t = 64 * x + t by omega]
  simp at h2
  refine ⟨Nat.min_le_right _ _, fun i hi1 hi2 => ?_, fun hlt => ?_⟩
  · by_cases hi : i < 64 * x
    · exact h i hi1 hi (by omega)
    · have hc := h3 (i - 64 * x) (by omega)
      rw [cand_bit _ _ _ _ _ (by omega), show 64 * x + (i - 64 * x) = i by omega] at hc
      have hd : decide (F ≤ i) = true := decide_eq_true hi1
      rw [hd] at hc
      cases b <;> cases hl : l.getD i false <;> rw [hl] at hc <;> simp at hc <;> rfl
  · have : min (64 * x + t) l.length = 64 * x + t := by omega
    rw [this]
    exact ⟨h2.2, h2.1⟩
theorem next_none {l : List Bool} {F x : Nat} {b : Bool} (h : NoneTo l F b (64 * x)) (hx : l.length ≤ 64 * x) : IsNext l F b l.length :=
  ⟨Nat.le_refl _, fun i h1 h2 => h i h1 (by omega) h2, fun h3 => absurd h3 (by omega)⟩
def NextEnd (l : List Bool) (F : Nat) (b : Bool) (w : World) (e : Ending) (w' : World) : Prop :=
  ∃ r : Nat, IsNext l F b r ∧ e = .returned (.int .i64 r) ∧ ∃ m, w' = w.drewN m
theorem next_end {l : List Bool} {F : Nat} {b : Bool} {w : World} {r : Nat} (h : IsNext l F b r) {v : Int} (hv : v = (r : Int)) (m : Nat) : NextEnd l F b w (.returned (.int .i64 v)) (w.drewN m) := ⟨r, h, by rw [hv], m, rfl⟩
theorem max_f (f : Int) (F : Nat) (h : (0 ≤ f ∧ f = F) ∨ (f < 0 ∧ F = 0)) : (if f < 0 then (0 : Int) else f) = F := by split <;> omega
theorem max_f2 (f : Int) (F : Nat) (h : (0 ≤ f ∧ f = F) ∨ (f < 0 ∧ F = 0)) : (if 0 < f then f else (0 : Int)) = F := by split <;> omega
theorem i64_fit (n : Int) (h1 : -9223372036854775808 ≤ n) (h2 : n ≤ 9223372036854775807) : IntKind.i64.wrap n = n := by rw [IntKind.wrap_i64]; omega
end Go.Proofs.Ytabkgdichlebmaa
