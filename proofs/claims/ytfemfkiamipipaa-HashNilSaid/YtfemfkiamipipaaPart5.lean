/-
  Layer 5: the reference's part: a part's bytes.
-/
import Derived.Test.YtfemfkiamipipaaUniq5
import Derived.Laws.IdiomStrings
import Derived.Laws.Concat
namespace Go.Proofs.Ytfemfkiamipipaa
open Go.ChangeShapes Go.WideShapes Go.ChangeAt Go.RowKit
set_option linter.unusedVariables false

/-- the first j bytes of a number, the highest first. -/
def topB (u j : Nat) : List UInt8 := (List.range j).map fun t => UInt8.ofNat (u / 256 ^ (7 - t) % 256)
theorem topB_zero (u : Nat) : topB u 0 = [] := rfl
theorem topB_succ (u j : Nat) : topB u (j + 1) = topB u j ++ [UInt8.ofNat (u / 256 ^ (7 - j) % 256)] := by unfold topB; rw [List.range_succ, List.map_append]; rfl
theorem topB_length (u j : Nat) : (topB u j).length = j := by simp [topB]
theorem topB_all (u : Nat) : topB u 8 = bytesB 8 u := by
  simp only [topB, bytesB, List.range, List.range.loop, List.map, List.nil_append, List.cons_append, Nat.div_div_eq_div_mul, Nat.reduceMul, Nat.reduceSub, Nat.reducePow, Nat.div_one]
def byteV (l : List UInt8) : List Value := l.map fun b => .int .u8 (b.toNat : Int)
theorem byteV_length (l : List UInt8) : (byteV l).length = l.length := by simp [byteV]
theorem byteV_snoc (l : List UInt8) (b : UInt8) : byteV (l ++ [b]) = byteV l ++ [.int .u8 (b.toNat : Int)] := by simp [byteV]
theorem info_pu8 : (Try.prog.info? 5).map (fun i => (i.zero, i.size, i.bytes)) = some (some (.int .u8 0), 1, 1) := by kernel_rfl
theorem enc_text {n : Int} {s : ByteArray} : encP ⟨1, n, s⟩ = 1 :: UInt8.ofNat s.size :: s.data.toList := by unfold encP; rw [if_pos rfl]
theorem enc_int {n : Int} {s : ByteArray} : encP ⟨0, n, s⟩ = 0 :: bytesB 8 (n + 9223372036854775808).toNat := by unfold encP; rw [if_neg (show ¬ (0 : Int) = 1 by decide)]
theorem top_number {n : Int} (h1 : -9223372036854775808 ≤ n) (h2 : n < 9223372036854775808) : bits .xor .u64 (IntKind.u64.wrap n) 9223372036854775808 = (((n + 9223372036854775808).toNat : Nat) : Int) := by
  rw [IntKind.wrap_u64]
  obtain ⟨u, hu⟩ : ∃ u : Nat, n % 18446744073709551616 = (u : Int) := ⟨(n % 18446744073709551616).toNat, by omega⟩
  rw [hu, bits_top (by omega)]
  rcases Nat.lt_or_ge u 9223372036854775808 with h | h
  · rw [xor_top h]; omega
  · rw [xor_back h (by omega)]; omega
/-- a right label that is no tuple. -/
def plainL (a : Lab) : Prop := a.k = 0 ∧ a.s = noS ∧ -9223372036854775808 ≤ a.n ∧ a.n < 9223372036854775808 ∨ a.k = 1 ∧ a.n = 0 ∧ a.s.size ≤ 32
end Go.Proofs.Ytfemfkiamipipaa
