/-
  LABELS AS TEXT: digits, texts in quotes, tuples; read again. Plain: nothing of a program.
-/
import Derived.Test.YtfemfkiamipipaaTup5
namespace Go.Proofs.Ytfemfkiamipipaa
open Go
set_option linter.unusedVariables false

/-! ### digits -/
def isDig (b : UInt8) : Bool := decide (48 ≤ b.toNat ∧ b.toNat ≤ 57)
def dig (n : Nat) : UInt8 := UInt8.ofNat (48 + n % 10)
theorem dig_nat (n : Nat) : (dig n).toNat = 48 + n % 10 := by unfold dig; simp; omega
theorem dig_isDig (n : Nat) : isDig (dig n) = true := by unfold isDig; rw [dig_nat]; simp; omega
def decL (n : Nat) : List UInt8 := if h : n < 10 then [dig n] else decL (n / 10) ++ [dig n]
termination_by n
decreasing_by omega
theorem decL_small {n : Nat} (h : n < 10) : decL n = [dig n] := by rw [decL, dif_pos h]
theorem decL_big {n : Nat} (h : ¬ n < 10) : decL n = decL (n / 10) ++ [dig n] := by rw [decL, dif_neg h]
def numD (l : List UInt8) : Nat := l.foldl (fun u b => u * 10 + (b.toNat - 48)) 0
theorem numD_snoc (l : List UInt8) (b : UInt8) : numD (l ++ [b]) = numD l * 10 + (b.toNat - 48) := by unfold numD; rw [List.foldl_append]; rfl
theorem decL_ne (n : Nat) : decL n ≠ [] := by
  by_cases h : n < 10
  · rw [decL_small h]; exact List.cons_ne_nil _ _
  · rw [decL_big h]; simp
theorem decL_num (n : Nat) : numD (decL n) = n := by
  induction n using Nat.strongRecOn with
  | ind n ih =>
    by_cases h : n < 10
    · rw [decL_small h]
      show 0 * 10 + ((dig n).toNat - 48) = n
      rw [dig_nat]; omega
    · rw [decL_big h, numD_snoc, ih _ (by omega), dig_nat]; omega
theorem decL_digs (n : Nat) : ∀ b ∈ decL n, isDig b = true := by
  induction n using Nat.strongRecOn with
  | ind n ih =>
    intro b hb
    by_cases h : n < 10
    · rw [decL_small h] at hb
      simp at hb; subst hb; exact dig_isDig n
    · rw [decL_big h] at hb
      simp at hb
      rcases hb with hb | rfl
      · exact ih _ (by omega) b hb
      · exact dig_isDig n
theorem dig_of {b : UInt8} (h : isDig b = true) (n : Nat) (hn : n % 10 = b.toNat - 48) : dig n = b := by
  unfold isDig at h
  rw [decide_eq_true_eq] at h
  apply UInt8.toNat_inj.1
  rw [dig_nat]; omega
theorem decL_of (l : List UInt8) (h : l ≠ []) (hd : ∀ b ∈ l, isDig b = true) (hz : l.head? ≠ some 48 ∨ l = [48]) : decL (numD l) = l := by
  obtain ⟨n, hn⟩ : ∃ n, n = l.length := ⟨_, rfl⟩
  induction n generalizing l with
  | zero => exact absurd (List.eq_nil_of_length_eq_zero hn.symm) h
  | succ n ih =>
    obtain ⟨l', b, rfl⟩ : ∃ l' b, l = l' ++ [b] := ⟨l.dropLast, l.getLast h, (List.dropLast_concat_getLast h).symm⟩
    rw [List.length_append, List.length_singleton] at hn
    have hb : isDig b = true := hd b (by simp)
    have hb2 := hb
    unfold isDig at hb2
    rw [decide_eq_true_eq] at hb2
    by_cases h' : l' = []
    · subst h'
      show decL (0 * 10 + (b.toNat - 48)) = [b]
      rw [decL_small (by omega), dig_of hb _ (by omega)]
    · have hz' : l'.head? ≠ some 48 := by
        rcases hz with hz | hz
        · rw [List.head?_append] at hz
          cases l' with
          | nil => exact absurd rfl h'
          | cons c t => exact hz
        · cases l' with
          | nil => exact absurd rfl h'
          | cons c t => exact absurd (congrArg List.length hz) (by simp)
      have ih' := ih l' h' (fun b hb => hd b (by simp [hb])) (.inl hz') (by omega)
      have hp : 0 < numD l' := by
        rcases Nat.eq_zero_or_pos (numD l') with h0 | h0
        · rw [h0, decL_small (by omega)] at ih'
          rw [← ih'] at hz'
          exact absurd rfl hz'
        · exact h0
      rw [numD_snoc, decL_big (by omega), show (numD l' * 10 + (b.toNat - 48)) / 10 = numD l' by omega, ih', dig_of hb _ (by omega)]
theorem decL_head {n : Nat} (h : 0 < n) : (decL n).head? ≠ some 48 := by
  induction n using Nat.strongRecOn with
  | ind n ih =>
    by_cases h1 : n < 10
    · rw [decL_small h1]
      intro e
      injection e with e
      have := congrArg UInt8.toNat e
      rw [dig_nat] at this
      have h48 : (48 : UInt8).toNat = 48 := rfl
      omega
    · rw [decL_big h1]
      have ih' := ih (n / 10) (by omega) (by omega)
      have hne := decL_ne (n / 10)
      cases hc : decL (n / 10) with
      | nil => exact absurd hc hne
      | cons c t => rw [hc] at ih'; exact ih'

/-! ### numbers with a sign -/
def intL (n : Int) : List UInt8 := if n < 0 then 45 :: decL n.natAbs else decL n.natAbs
def signD (s : List UInt8) : Bool × List UInt8 := match s with
  | 45 :: t => (true, t)
  | _ => (false, s)
def valD (neg : Bool) (d : List UInt8) : Int := if neg then -(numD d : Int) else (numD d : Int)
def sgnL (neg : Bool) (d : List UInt8) : List UInt8 := if neg then 45 :: d else d
/-- the number at the beginning, and what is left. -/
def numE (s : List UInt8) : Option (Int × List UInt8) :=
  let v := valD (signD s).1 ((signD s).2.takeWhile isDig)
  if (signD s).2.takeWhile isDig ≠ [] ∧ intL v = sgnL (signD s).1 ((signD s).2.takeWhile isDig) ∧ -9223372036854775808 ≤ v ∧ v < 9223372036854775808 then some (v, (signD s).2.dropWhile isDig) else none
theorem show_num {s r : List UInt8} {v : Int} (h : numE s = some (v, r)) : s = intL v ++ r ∧ -9223372036854775808 ≤ v ∧ v < 9223372036854775808 := by
  unfold numE at h
  dsimp only at h
  split at h
  · next hc =>
    injection h with h
    injection h with h1 h2
    subst h1 h2
    refine ⟨?_, hc.2.2⟩
    rw [hc.2.1]
    unfold signD sgnL
    split
    · next t => simp [List.takeWhile_append_dropWhile]
    · simp [List.takeWhile_append_dropWhile]
  · cases h
def noDig (r : List UInt8) : Prop := ∀ b, r.head? = some b → isDig b = false
theorem take_digs {d r : List UInt8} (hd : ∀ b ∈ d, isDig b = true) (hr : noDig r) : (d ++ r).takeWhile isDig = d ∧ (d ++ r).dropWhile isDig = r := by
  induction d with
  | nil =>
    cases r with
    | nil => exact ⟨rfl, rfl⟩
    | cons b t =>
      have := hr b rfl
      simp [this]
  | cons b t ih =>
    have hb := hd b (by simp)
    have := ih (fun c hc => hd c (by simp [hc]))
    simp [hb, this]
theorem num_show (n : Int) (r : List UInt8) (h1 : -9223372036854775808 ≤ n) (h2 : n < 9223372036854775808) (hr : noDig r) : numE (intL n ++ r) = some (n, r) := by
  obtain ⟨t1, t2⟩ := take_digs (decL_digs n.natAbs) hr
  have hne := decL_ne n.natAbs
  have hnm := decL_num n.natAbs
  unfold numE
  by_cases h : n < 0
  · have e : intL n = 45 :: decL n.natAbs := by unfold intL; rw [if_pos h]
    have hs : signD (intL n ++ r) = (true, decL n.natAbs ++ r) := by rw [e]; rfl
    rw [hs]
    dsimp only
    rw [t1, t2]
    have hv : valD true (decL n.natAbs) = n := by unfold valD; rw [if_pos rfl, hnm]; omega
    rw [hv, if_pos ⟨hne, by rw [e]; rfl, h1, h2⟩]
  · have e : intL n = decL n.natAbs := by unfold intL; rw [if_neg h]
    have hs : signD (intL n ++ r) = (false, decL n.natAbs ++ r) := by
      rw [e]
      have hd := decL_digs n.natAbs
      cases hc : decL n.natAbs with
      | nil => exact absurd hc hne
      | cons b t =>
        rw [hc] at hd
        have hb := hd b (by simp)
        unfold signD
        split
        · next t' e' =>
          injection e' with e1 e2
          subst e1
          exact absurd hb (by decide)
        · rfl
    rw [hs]
    dsimp only
    rw [t1, t2]
    have hv : valD false (decL n.natAbs) = n := by unfold valD; rw [if_neg (by simp), hnm]; omega
    rw [hv, if_pos ⟨hne, by rw [e]; rfl, h1, h2⟩]
end Go.Proofs.Ytfemfkiamipipaa
