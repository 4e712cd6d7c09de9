/-
  bits.From and its reference; the reference's New: contracts.
-/
import Derived.Test.YtabkgdichlebmaaBytes
namespace Go.Proofs.Ytabkgdichlebmaa
open Go.ChangeShapes Go.WideShapes Go.ChangeAt Go.RowKit
set_option linter.unusedVariables false

/-- the slice at A holds these bytes. -/
def Octets (w : World) (B : Nat) (A : Option Addr) (n : Nat) (bs : List Nat) : Prop := bs.length = n ∧ (∀ k, bs.getD k 0 < 256) ∧ Sees w B A n fun k => .int .u8 ((bs.getD k 0 : Nat) : Int)
theorem Octets.keep {w w' : World} {B : Nat} {A : Option Addr} {n : Nat} {bs : List Nat} (h : Octets w B A n bs) (hb : Below B w w') : Octets w' B A n bs := ⟨h.1, h.2.1, h.2.2.below hb⟩
theorem Octets.drewN {w : World} {B : Nat} {A : Option Addr} {n : Nat} {bs : List Nat} (h : Octets w B A n bs) (m : Nat) : Octets (w.drewN m) B A n bs := h
theorem Octets.more {w : World} {B B' : Nat} {A : Option Addr} {n : Nat} {bs : List Nat} (h : Octets w B A n bs) (hB : B ≤ B') : Octets w B' A n bs := ⟨h.1, h.2.1, h.2.2.more hB⟩
def bitB (bs : List Nat) (i : Nat) : Bool := (bs.getD (i / 8) 0).testBit (i % 8)
def fromL (bs : List Nat) (n : Nat) : List Bool := tab n (bitB bs)
theorem fromL_length (bs : List Nat) (n : Nat) : (fromL bs n).length = n := tab_length _ _
theorem fromL_get (bs : List Nat) (n i : Nat) : (fromL bs n).getD i false = (decide (i < n) && bitB bs i) := tab_get _ _ _
/-- are these bytes n truths'? -/
def Fits (bs : List Nat) (n : Nat) : Prop := n ≤ 2097152 ∧ bs.length = (n + 7) / 8 ∧ ∀ i, n ≤ i → i < 8 * bs.length → bitB bs i = false
def FitsI (bs : List Nat) (n : Int) : Prop := 0 ≤ n ∧ Fits bs n.toNat
/-- of the first x bytes. -/
def fromH (bs : List Nat) (n x : Nat) : List Bool := tab n fun i => decide (i < 8 * x) && bitB bs i
theorem fromH_length (bs : List Nat) (n x : Nat) : (fromH bs n x).length = n := tab_length _ _
theorem fromH_get (bs : List Nat) (n x i : Nat) : (fromH bs n x).getD i false = (decide (i < n) && (decide (i < 8 * x) && bitB bs i)) := tab_get _ _ _
theorem fromH_zero (bs : List Nat) (n : Nat) : fromH bs n 0 = none_ n :=
  list_eq (by rw [fromH_length, none_length]) fun i _ => by rw [fromH_get, none_get]; simp
theorem fromH_all (bs : List Nat) (n x : Nat) (h : n ≤ 8 * x) : fromH bs n x = fromL bs n :=
  list_eq (by rw [fromH_length, fromL_length]) fun i hi => by
    rw [fromH_length] at hi
    rw [fromH_get, fromL_get]
    have h1 : decide (i < 8 * x) = true := decide_eq_true (by omega)
    rw [h1]; simp
theorem word_from_at (bs : List Nat) (n x : Nat) (hf : Fits bs n) (hb : bs.getD x 0 < 256) (hx : x < bs.length) : word (fromH bs n (x + 1)) (x / 8) = word (fromH bs n x) (x / 8) ||| bs.getD x 0 * 2 ^ (x % 8 * 8) := by
  have hp : bs.getD x 0 * 2 ^ (x % 8 * 8) < 2 ^ 64 := by
    have h1 : bs.getD x 0 * 2 ^ (x % 8 * 8) < 256 * 2 ^ (x % 8 * 8) := Nat.mul_lt_mul_of_pos_right hb (Nat.two_pow_pos _)
    have h2 : 256 * 2 ^ (x % 8 * 8) ≤ 256 * 2 ^ 56 := Nat.mul_le_mul_left _ (Nat.pow_le_pow_right (by omega) (by omega))
    have h3 : 256 * 2 ^ 56 = 2 ^ 64 := by decide
    omega
  refine (eq_word (Nat.or_lt_two_pow (n := 64) (word_lt _ _) hp) fun b hb64 => ?_).symm
  rw [Nat.testBit_or, word_bit _ _ _ hb64, fromH_get, fromH_get, Nat.testBit_mul_two_pow]
  by_cases h1 : x % 8 * 8 ≤ b
  · by_cases h2 : b < x % 8 * 8 + 8
    · have e1 : (64 * (x / 8) + b) / 8 = x := by omega
      have e2 : (64 * (x / 8) + b) % 8 = b - x % 8 * 8 := by omega
      have hbit : bitB bs (64 * (x / 8) + b) = (bs.getD x 0).testBit (b - x % 8 * 8) := by unfold bitB; rw [e1, e2]
      have d1 : decide (64 * (x / 8) + b < 8 * x) = false := decide_eq_false (by omega)
      have d2 : decide (64 * (x / 8) + b < 8 * (x + 1)) = true := decide_eq_true (by omega)
      have d3 : decide (x % 8 * 8 ≤ b) = true := decide_eq_true h1
      rw [d1, d2, d3, ← hbit]
      by_cases h3 : 64 * (x / 8) + b < n
      · simp [h3]
      · have := hf.2.2 (64 * (x / 8) + b) (by omega) (by omega)
        rw [this]; simp
    · have hz : (bs.getD x 0).testBit (b - x % 8 * 8) = false := Nat.testBit_lt_two_pow (Nat.lt_of_lt_of_le hb (show 2 ^ 8 ≤ _ from Nat.pow_le_pow_right (by omega) (by omega)))
      have d1 : decide (64 * (x / 8) + b < 8 * x) = false := decide_eq_false (by omega)
      have d2 : decide (64 * (x / 8) + b < 8 * (x + 1)) = false := decide_eq_false (by omega)
      rw [hz, d1, d2]; simp
  · have d1 : decide (64 * (x / 8) + b < 8 * x) = true := decide_eq_true (by omega)
    have d2 : decide (64 * (x / 8) + b < 8 * (x + 1)) = true := decide_eq_true (by omega)
    have d3 : decide (x % 8 * 8 ≤ b) = false := decide_eq_false h1
    rw [d1, d2, d3]; simp
theorem word_from_far (bs : List Nat) (n x j : Nat) (h : j ≠ x / 8) : word (fromH bs n (x + 1)) j = word (fromH bs n x) j := by
  refine word_eq fun b hb => ?_
  rw [fromH_get, fromH_get]
  have : decide (64 * j + b < 8 * (x + 1)) = decide (64 * j + b < 8 * x) := decide_eq_decide.2 (by omega)
  rw [this]
theorem shl_byte (v s : Nat) (hv : v < 256) (hs : s ≤ 56) : IntKind.u64.wrap ((v : Int) * 2 ^ s) = ((v * 2 ^ s : Nat) : Int) := by
  have h1 : v * 2 ^ s < 256 * 2 ^ s := Nat.mul_lt_mul_of_pos_right hv (Nat.two_pow_pos _)
  have h2 : 256 * 2 ^ s ≤ 256 * 2 ^ 56 := Nat.mul_le_mul_left _ (Nat.pow_le_pow_right (by omega) hs)
  have e : (v : Int) * 2 ^ s = ((v * 2 ^ s : Nat) : Int) := by simp
  rw [e]
  exact wrap_fits _ (by omega)
theorem from_step {w : World} {B g r k c x n : Nat} {bs : List Nat} (hm : Mask w B g (some ⟨r, 0, none⟩) k c (fromH bs n x)) (hf : Fits bs n) (hb : bs.getD x 0 < 256) (hx : x < bs.length)
    (u : Int) (hu : u = bits BinOp.or IntKind.u64 ((word (fromH bs n x) (x / 8) : Nat) : Int) (IntKind.u64.wrap (((bs.getD x 0 : Nat) : Int) * 2 ^ (x % 8 * 8)))) :
    Mask (w.setCell ⟨r, x / 8, none⟩ (.int .u64 u)) B g (some ⟨r, 0, none⟩) k c (fromH bs n (x + 1)) := by
  have hp : bs.getD x 0 * 2 ^ (x % 8 * 8) < 2 ^ 64 := by
    have h1 : bs.getD x 0 * 2 ^ (x % 8 * 8) < 256 * 2 ^ (x % 8 * 8) := Nat.mul_lt_mul_of_pos_right hb (Nat.two_pow_pos _)
    have h2 : 256 * 2 ^ (x % 8 * 8) ≤ 256 * 2 ^ 56 := Nat.mul_le_mul_left _ (Nat.pow_le_pow_right (by omega) (by omega))
    have h3 : 256 * 2 ^ 56 = 2 ^ 64 := by decide
    omega
  have hv : u = ((word (fromH bs n (x + 1)) (x / 8) : Nat) : Int) := by
    rw [hu, word_from_at bs n x hf hb hx, shl_byte _ _ hb (by omega), u64_or_nat _ _ (word_lt _ _) hp]
  rw [hv]
  refine hm.put (by rw [fromH_length, fromH_length]) ?_ fun i _ hi => word_from_far bs n x i hi
  have := hm.count
  have h2 := hf.2.1
  rw [this]; unfold nw; rw [fromH_length]; omega
/-- the last byte: nothing behind the last truth. -/
theorem fits_last (bs : List Nat) (n : Nat) (h1 : n ≤ 2097152) (h2 : bs.length = (n + 7) / 8) (hb : ∀ k, bs.getD k 0 < 256) : Fits bs n ↔ (n % 8 ≠ 0 → bs.getD (bs.length - 1) 0 / 2 ^ (n % 8) = 0) := by
  constructor
  · intro hf hn
    apply Nat.eq_of_testBit_eq
    intro c
    rw [Nat.testBit_div_two_pow, Nat.zero_testBit]
    by_cases hc : c + n % 8 < 8
    · have := hf.2.2 (8 * (bs.length - 1) + (c + n % 8)) (by omega) (by omega)
      unfold bitB at this
      rw [show (8 * (bs.length - 1) + (c + n % 8)) / 8 = bs.length - 1 by omega, show (8 * (bs.length - 1) + (c + n % 8)) % 8 = c + n % 8 by omega] at this
      exact this
    · exact Nat.testBit_lt_two_pow (Nat.lt_of_lt_of_le (hb _) (show 2 ^ 8 ≤ _ from Nat.pow_le_pow_right (by omega) (by omega)))
  · intro h
    refine ⟨h1, h2, fun i hi1 hi2 => ?_⟩
    have hn : n % 8 ≠ 0 := by omega
    have h3 := h hn
    unfold bitB
    rw [show i / 8 = bs.length - 1 by omega]
    have h4 : (bs.getD (bs.length - 1) 0 / 2 ^ (n % 8)).testBit (i % 8 - n % 8) = false := by rw [h3]; simp
    rw [Nat.testBit_div_two_pow, show i % 8 - n % 8 + n % 8 = i % 8 by omega] at h4
    exact h4

def FromNo (w : World) (e : Ending) (w' : World) : Prop := e = .returned (.tuple #[.pointer none, .bool false]) ∧ w' = w
def FromYes (l : List Bool) (w : World) (e : Ending) (w' : World) : Prop :=
  ∃ g A k c, e = .returned (.tuple #[.pointer (some ⟨g, 0, none⟩), .bool true]) ∧ Mask w' w.heap.size g A k c l ∧ w.grownBy w' none
end Go.Proofs.Ytabkgdichlebmaa
