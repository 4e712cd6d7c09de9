/-
  HOW MANY BITS ARE SO, BY SUMS OF BYTES: plain arithmetic, nothing of the program.
-/
import Derived.Test.YtabkgdichlebmaaWords
import Derived.Laws.BitsAllLaws
namespace Go.Proofs.Ytabkgdichlebmaa
set_option linter.unusedVariables false

def rep (m : Nat) : Nat → Nat
  | 0 => 0
  | n + 1 => m + 256 * rep m n
def mapB (f : Nat → Nat) : Nat → Nat → Nat
  | 0, _ => 0
  | n + 1, x => f (x % 256) + 256 * mapB f n (x / 256)
def sumB (f : Nat → Nat) : Nat → Nat → Nat
  | 0, _ => 0
  | n + 1, x => f (x % 256) + sumB f n (x / 256)
theorem and_byte (x m R : Nat) (hm : m < 256) : x &&& (m + 256 * R) = (x % 256 &&& m) + 256 * (x / 256 &&& R) := by
  have h256 : (256 : Nat) = 2 ^ 8 := by decide
  have ha : x % 256 &&& m < 2 ^ 8 := Nat.lt_of_le_of_lt Nat.and_le_right (by omega)
  apply Nat.eq_of_testBit_eq
  intro i
  rw [Nat.testBit_and, Nat.add_comm m, Nat.add_comm (x % 256 &&& m), h256, Nat.testBit_two_pow_mul_add _ (by omega), Nat.testBit_two_pow_mul_add _ (by rw [← h256]; exact ha), Nat.testBit_and, Nat.testBit_and, Nat.testBit_mod_two_pow, Nat.testBit_div_two_pow]
  by_cases h : i < 8
  · simp [h]
  · rw [if_neg h, if_neg h, show i - 8 + 8 = i by omega]
theorem mapB_lt {f : Nat → Nat} (hf : ∀ b, b < 256 → f b < 256) (n x : Nat) : mapB f n x < 256 ^ n := by
  induction n generalizing x with
  | zero => simp [mapB]
  | succ n ih =>
    have := ih (x / 256)
    have := hf (x % 256) (Nat.mod_lt _ (by omega))
    unfold mapB
    rw [Nat.pow_succ]
    omega
theorem mapB_mapB {f g : Nat → Nat} (hf : ∀ b, b < 256 → f b < 256) (n x : Nat) : mapB g n (mapB f n x) = mapB (fun b => g (f b)) n x := by
  induction n generalizing x with
  | zero => rfl
  | succ n ih =>
    have h1 := hf (x % 256) (Nat.mod_lt _ (by omega))
    show g ((f (x % 256) + 256 * mapB f n (x / 256)) % 256) + 256 * mapB g n ((f (x % 256) + 256 * mapB f n (x / 256)) / 256) = g (f (x % 256)) + 256 * mapB (fun b => g (f b)) n (x / 256)
    rw [show (f (x % 256) + 256 * mapB f n (x / 256)) % 256 = f (x % 256) by omega, show (f (x % 256) + 256 * mapB f n (x / 256)) / 256 = mapB f n (x / 256) by omega, ih]
theorem mapB_congr {f g : Nat → Nat} (h : ∀ b, b < 256 → f b = g b) (n x : Nat) : mapB f n x = mapB g n x := by
  induction n generalizing x with
  | zero => rfl
  | succ n ih => show f (x % 256) + _ = g (x % 256) + _; rw [h _ (Nat.mod_lt _ (by omega)), ih]

def pairs (b : Nat) : Nat := (b / 2 &&& 85) + (b &&& 85)
def fours (b : Nat) : Nat := (b / 4 &&& 51) + (b &&& 51)
theorem low2 : ∀ b, b < 256 → ∀ t, t < 2 → (b / 2 + 128 * t) &&& 85 = b / 2 &&& 85 := by decide +kernel
theorem low4 : ∀ b, b < 256 → ∀ t, t < 4 → (b / 4 + 64 * t) &&& 51 = b / 4 &&& 51 := by decide +kernel
theorem pairs_all (n x : Nat) : (x / 2 &&& rep 85 n) + (x &&& rep 85 n) = mapB pairs n x := by
  induction n generalizing x with
  | zero => simp [rep, mapB]
  | succ n ih =>
    show (x / 2 &&& (85 + 256 * rep 85 n)) + (x &&& (85 + 256 * rep 85 n)) = ((x % 256) / 2 &&& 85) + (x % 256 &&& 85) + 256 * mapB pairs n (x / 256)
    rw [← ih, and_byte _ _ _ (by omega), and_byte _ _ _ (by omega), show x / 2 % 256 = (x % 256) / 2 + 128 * (x / 256 % 2) by omega, low2 _ (Nat.mod_lt _ (by omega)) _ (Nat.mod_lt _ (by omega)), show x / 2 / 256 = x / 256 / 2 by omega]
    omega
theorem fours_all (n x : Nat) : (x / 4 &&& rep 51 n) + (x &&& rep 51 n) = mapB fours n x := by
  induction n generalizing x with
  | zero => simp [rep, mapB]
  | succ n ih =>
    show (x / 4 &&& (51 + 256 * rep 51 n)) + (x &&& (51 + 256 * rep 51 n)) = ((x % 256) / 4 &&& 51) + (x % 256 &&& 51) + 256 * mapB fours n (x / 256)
    rw [← ih, and_byte _ _ _ (by omega), and_byte _ _ _ (by omega), show x / 4 % 256 = (x % 256) / 4 + 64 * (x / 256 % 4) by omega, low4 _ (Nat.mod_lt _ (by omega)) _ (Nat.mod_lt _ (by omega)), show x / 4 / 256 = x / 256 / 4 by omega]
    omega
theorem eights_all {h : Nat → Nat} (hh : ∀ b, b < 256 → h b ≤ 68 ∧ h b % 16 ≤ 4) (n x : Nat) : (mapB h n x / 16 + mapB h n x) &&& rep 15 n = mapB (fun b => (h b / 16 + h b) % 16) n x := by
  induction n generalizing x with
  | zero => simp [rep, mapB]
  | succ n ih =>
    have hd := hh (x % 256) (Nat.mod_lt _ (by omega))
    have hz : mapB h n (x / 256) % 16 ≤ 4 := by
      cases n with
      | zero => simp [mapB]
      | succ n =>
        have := hh (x / 256 % 256) (Nat.mod_lt _ (by omega))
        show (h (x / 256 % 256) + 256 * mapB h n (x / 256 / 256)) % 16 ≤ 4
        omega
    show ((h (x % 256) + 256 * mapB h n (x / 256)) / 16 + (h (x % 256) + 256 * mapB h n (x / 256))) &&& (15 + 256 * rep 15 n) = (h (x % 256) / 16 + h (x % 256)) % 16 + 256 * mapB (fun b => (h b / 16 + h b) % 16) n (x / 256)
    rw [← ih, and_byte _ _ _ (by omega), nat_mask4]
    generalize h (x % 256) = d at *
    generalize mapB h n (x / 256) = z at *
    rw [show ((d + 256 * z) / 16 + (d + 256 * z)) / 256 = z / 16 + z by omega, show ((d + 256 * z) / 16 + (d + 256 * z)) % 256 % 16 = (d / 16 + d) % 16 by omega]
def pcB (b : Nat) : Nat := popc (fun i => b.testBit i) 8
theorem fours_small : ∀ b, b < 256 → fours (pairs b) ≤ 68 ∧ fours (pairs b) % 16 ≤ 4 := by decide +kernel
theorem pairs_small : ∀ b, b < 256 → pairs b < 256 := by decide +kernel
theorem pc_byte : ∀ b, b < 256 → (fours (pairs b) / 16 + fours (pairs b)) % 16 = pcB b := by decide +kernel
theorem popc_bytes (n x : Nat) : popc (fun i => x.testBit i) (8 * n) = sumB pcB n x := by
  induction n generalizing x with
  | zero => rfl
  | succ n ih =>
    show _ = pcB (x % 256) + sumB pcB n (x / 256)
    rw [← ih, show 8 * (n + 1) = 8 + 8 * n by omega, popc_add]
    congr 1
    · exact popc_congr fun i hi => by rw [show (256 : Nat) = 2 ^ 8 by decide, Nat.testBit_mod_two_pow]; simp [hi]
    · exact popc_congr fun i _ => by rw [show (256 : Nat) = 2 ^ 8 by decide, Nat.testBit_div_two_pow, Nat.add_comm]
theorem pcB_le (b : Nat) : pcB b ≤ 8 := popc_le _ _
/-- the bytes' sums, added up. -/
theorem add_up (e0 e1 e2 e3 e4 e5 e6 e7 y3 y4 y5 y6 : Nat) (h0 : e0 ≤ 8) (h1 : e1 ≤ 8) (h2 : e2 ≤ 8) (h3 : e3 ≤ 8) (h4 : e4 ≤ 8) (h5 : e5 ≤ 8) (h6 : e6 ≤ 8) (h7 : e7 ≤ 8)
    (g3 : y3 = e0 + 256 * (e1 + 256 * (e2 + 256 * (e3 + 256 * (e4 + 256 * (e5 + 256 * (e6 + 256 * (e7 + 256 * 0))))))))
    (g4 : y4 = y3 + y3 / 256) (g5 : y5 = y4 + y4 / 65536) (g6 : y6 = y5 + y5 / 4294967296) : y6 < 9223372036854775808 ∧ y6 % 128 = e0 + (e1 + (e2 + (e3 + (e4 + (e5 + (e6 + e7)))))) := by
  have k4 : y4 = (e0 + e1) + 256 * ((e1 + e2) + 256 * ((e2 + e3) + 256 * ((e3 + e4) + 256 * ((e4 + e5) + 256 * ((e5 + e6) + 256 * ((e6 + e7) + 256 * e7)))))) := by omega
  have k5 : y5 = (e0 + e1 + e2 + e3) + 256 * ((e1 + e2 + e3 + e4) + 256 * ((e2 + e3 + e4 + e5) + 256 * ((e3 + e4 + e5 + e6) + 256 * ((e4 + e5 + e6 + e7) + 256 * ((e5 + e6 + e7) + 256 * ((e6 + e7) + 256 * e7)))))) := by
    clear g3 g4
    omega
  clear g3 g4 k4 g5
  have k6 : y5 / 4294967296 = (e4 + e5 + e6 + e7) + 256 * ((e5 + e6 + e7) + 256 * ((e6 + e7) + 256 * e7)) := by omega
  have hb : y5 < 1152921504606846976 * 4 := by omega
  obtain ⟨K, hK⟩ : ∃ K, y5 = (e0 + e1 + e2 + e3) + 256 * K := ⟨_, k5⟩
  obtain ⟨L, hL⟩ : ∃ L, y5 / 4294967296 = (e4 + e5 + e6 + e7) + 256 * L := ⟨_, k6⟩
  rw [hL] at g6
  have hL2 : L ≤ 18446744073709551616 / 4294967296 := by omega
  clear k5 k6
  omega
end Go.Proofs.Ytabkgdichlebmaa
