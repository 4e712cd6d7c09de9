/-
  Numbers with their highest bit turned; a text's first bytes. Plain.
-/
import Derived.Test.YtfemfkiamipipaaRef5
import Derived.IntWalk
import Derived.Laws.Bits64b
import Derived.Lib.IndexBytes
namespace Go.Proofs.Ytfemfkiamipipaa
open Go.ChangeShapes Go.WideShapes Go.ChangeAt Go.RowKit
set_option linter.unusedVariables false

theorem xor_top {u : Nat} (h : u < 9223372036854775808) : u ^^^ 9223372036854775808 = u + 9223372036854775808 := by
  apply Nat.eq_of_testBit_eq
  intro i
  have e : (9223372036854775808 : Nat) = 2 ^ 63 := by decide
  rw [e] at h ⊢
  rw [Nat.testBit_xor, Nat.testBit_two_pow, Nat.add_comm]
  rcases Nat.lt_trichotomy i 63 with h1 | h1 | h1
  · rw [Nat.testBit_two_pow_add_gt h1, decide_eq_false (by omega), Bool.xor_false]
  · subst h1
    rw [Nat.testBit_two_pow_add_eq, decide_eq_true rfl, Nat.testBit_lt_two_pow h]; rfl
  · have h2 : 2 ^ 63 + u < 2 ^ i := Nat.lt_of_lt_of_le (show 2 ^ 63 + u < 2 ^ 64 by omega) (Nat.pow_le_pow_right (by omega) (by omega))
    rw [Nat.testBit_lt_two_pow h2, Nat.testBit_lt_two_pow (Nat.lt_of_le_of_lt (Nat.le_add_left u (2 ^ 63)) h2), decide_eq_false (by omega)]; rfl
theorem xor_back {u : Nat} (h : 9223372036854775808 ≤ u) (h2 : u < 18446744073709551616) : u ^^^ 9223372036854775808 = u - 9223372036854775808 := by
  have h3 := xor_top (u := u - 9223372036854775808) (by omega)
  rw [Nat.sub_add_cancel h] at h3
  have h4 : (u - 9223372036854775808 ^^^ 9223372036854775808) ^^^ 9223372036854775808 = u ^^^ 9223372036854775808 := by rw [h3]
  rw [← h4, Nat.xor_assoc, Nat.xor_self, Nat.xor_zero]
theorem bits_top {u : Nat} (h : u < 18446744073709551616) : bits .xor .u64 (u : Int) 9223372036854775808 = ((u ^^^ 9223372036854775808 : Nat) : Int) := bits_xor_u64_nat u 9223372036854775808 h (by omega)
/-- the number that a turned one was. -/
theorem turned_back {u : Nat} (h : u < 18446744073709551616) : IntKind.i64.wrap (bits .xor .u64 (u : Int) 9223372036854775808) = (u : Int) - 9223372036854775808 := by
  rw [bits_top h]
  rcases Nat.lt_or_ge u 9223372036854775808 with h1 | h1
  · rw [xor_top h1, IntKind.wrap_i64]; omega
  · rw [xor_back h1 h, IntKind.wrap_i64]; omega
end Go.Proofs.Ytfemfkiamipipaa
