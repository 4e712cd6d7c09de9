/-
  TRUTHS AS WORDS: plain arithmetic, nothing of the program: the number that has given bits; how many are so; which is the next.
-/
import Derived.Below
namespace Go.Proofs.Ytabkgdichlebmaa
set_option linter.unusedVariables false

/-- the number whose bit b is f b, of the bits below n. -/
def bitsOf (f : Nat → Bool) : Nat → Nat
  | 0 => 0
  | n + 1 => bitsOf f n + (if f n then 2 ^ n else 0)
theorem bitsOf_lt (f : Nat → Bool) (n : Nat) : bitsOf f n < 2 ^ n := by
  induction n with
  | zero => simp [bitsOf]
  | succ n ih => unfold bitsOf; have := Nat.pow_succ 2 n; split <;> omega
theorem bitsOf_bit (f : Nat → Bool) (n i : Nat) : (bitsOf f n).testBit i = (decide (i < n) && f i) := by
  induction n with
  | zero => simp [bitsOf]
  | succ n ih =>
    unfold bitsOf
    have hl := bitsOf_lt f n
    by_cases hf : f n = true
    · rw [if_pos hf, Nat.add_comm]
      by_cases hi : i = n
      · subst hi
        rw [Nat.testBit_two_pow_add_eq, ih]; simp [hf]
      · rcases Nat.lt_or_gt_of_ne hi with h | h
        · rw [Nat.testBit_two_pow_add_gt h, ih]; simp [h]; omega
        · have h1 : 2 ^ n + bitsOf f n < 2 ^ i := by
            have : 2 ^ (n + 1) ≤ 2 ^ i := Nat.pow_le_pow_right (by omega) h
            have := Nat.pow_succ 2 n
            omega
          rw [Nat.testBit_lt_two_pow h1]
          simp; omega
    · rw [if_neg hf, Nat.add_zero, ih]
      by_cases hi : i = n
      · subst hi; simp [hf]
      · have : decide (i < n + 1) = decide (i < n) := by apply decide_eq_decide.2; omega
        rw [this]
theorem eq_bitsOf {x n : Nat} {f : Nat → Bool} (hx : x < 2 ^ n) (h : ∀ i, i < n → x.testBit i = f i) : x = bitsOf f n := by
  apply Nat.eq_of_testBit_eq
  intro i
  rw [bitsOf_bit]
  by_cases hi : i < n
  · rw [h i hi]; simp [hi]
  · rw [Nat.testBit_lt_two_pow (Nat.lt_of_lt_of_le hx (Nat.pow_le_pow_right (by omega) (by omega)))]; simp [hi]
theorem bitsOf_congr {f g : Nat → Bool} {n : Nat} (h : ∀ i, i < n → f i = g i) : bitsOf f n = bitsOf g n :=
  eq_bitsOf (bitsOf_lt f n) fun i hi => by rw [bitsOf_bit, h i hi]; simp [hi]

/-! ### lists of truths -/
def tab (n : Nat) (f : Nat → Bool) : List Bool := (List.range n).map f
theorem tab_length (n : Nat) (f : Nat → Bool) : (tab n f).length = n := by simp [tab]
theorem tab_get (n : Nat) (f : Nat → Bool) (i : Nat) : (tab n f).getD i false = (decide (i < n) && f i) := by
  unfold tab
  by_cases h : i < n <;> simp [List.getD, h]
theorem get_past {l : List Bool} {i : Nat} (h : l.length ≤ i) : l.getD i false = false := by simp [List.getD, h]
theorem list_eq {l m : List Bool} (hl : l.length = m.length) (h : ∀ i, i < l.length → l.getD i false = m.getD i false) : l = m := by
  apply List.ext_getElem hl
  intro i h1 h2
  have := h i h1
  simpa [List.getD, h1, h2] using this
theorem tab_self (l : List Bool) : tab l.length (fun i => l.getD i false) = l :=
  list_eq (tab_length _ _) fun i hi => by rw [tab_length] at hi; rw [tab_get]; simp [hi]

/-- truth i, of a number that may be below 0. -/
def tr (l : List Bool) (i : Int) : Bool := if 0 ≤ i then l.getD i.toNat false else false
theorem tr_neg (l : List Bool) (i : Int) (h : i < 0) : tr l i = false := by unfold tr; rw [if_neg (by omega)]
theorem tr_past (l : List Bool) (i : Int) (h : (l.length : Int) ≤ i) : tr l i = false := by unfold tr; rw [if_pos (by omega), get_past (by omega)]
theorem tr_nat (l : List Bool) (i : Nat) : tr l i = l.getD i false := by unfold tr; rw [if_pos (by omega)]; rfl

/-! ### words -/
def word (l : List Bool) (j : Nat) : Nat := bitsOf (fun b => l.getD (64 * j + b) false) 64
def nw (l : List Bool) : Nat := (l.length + 63) / 64
theorem word_lt (l : List Bool) (j : Nat) : word l j < 18446744073709551616 := bitsOf_lt _ 64
theorem word_bit (l : List Bool) (j b : Nat) (hb : b < 64) : (word l j).testBit b = l.getD (64 * j + b) false := by
  unfold word; rw [bitsOf_bit]; simp [hb]
theorem eq_word {x j : Nat} {l : List Bool} (hx : x < 18446744073709551616) (h : ∀ b, b < 64 → x.testBit b = l.getD (64 * j + b) false) : x = word l j := eq_bitsOf hx h
theorem word_eq {l m : List Bool} {j : Nat} (h : ∀ b, b < 64 → l.getD (64 * j + b) false = m.getD (64 * j + b) false) : word l j = word m j := bitsOf_congr h
theorem nw_le {l : List Bool} (h : l.length ≤ 2097152) : nw l ≤ 32768 := by unfold nw; omega
theorem words_eq {l m : List Bool} (hl : l.length = m.length) (h : ∀ j, j < nw l → word l j = word m j) : l = m := by
  refine list_eq hl fun i hi => ?_
  have hj : i / 64 < nw l := by unfold nw; omega
  have h1 := word_bit l (i / 64) (i % 64) (by omega)
  have h2 := word_bit m (i / 64) (i % 64) (by omega)
  rw [h _ hj, h2] at h1
  have e : 64 * (i / 64) + i % 64 = i := by omega
  rw [e] at h1
  exact h1.symm

/-! ### filled from f up to t -/
def fillL (l : List Bool) (f t : Nat) (b : Bool) : List Bool := tab l.length fun i => if f ≤ i ∧ i < t then b else l.getD i false
theorem fillL_length (l : List Bool) (f t : Nat) (b : Bool) : (fillL l f t b).length = l.length := tab_length _ _
theorem fillL_get (l : List Bool) (f t : Nat) (b : Bool) (i : Nat) (ht : t ≤ l.length) : (fillL l f t b).getD i false = if f ≤ i ∧ i < t then b else l.getD i false := by
  unfold fillL
  rw [tab_get]
  by_cases h : i < l.length
  · simp [h]
  · rw [if_neg (by omega), get_past (by omega)]; simp [h]
theorem fillL_none (l : List Bool) (f : Nat) (b : Bool) (h : f ≤ l.length) : fillL l f f b = l :=
  list_eq (fillL_length _ _ _ _) fun i _ => by rw [fillL_get _ _ _ _ _ h, if_neg (by omega)]
/-- the ones of a part: from s on, n of them. -/
def part (s n : Nat) : Nat := bitsOf (fun b => decide (s ≤ b ∧ b < s + n)) 64
theorem part_lt (s n : Nat) : part s n < 18446744073709551616 := bitsOf_lt _ 64
theorem part_bit (s n b : Nat) (hb : b < 64) : (part s n).testBit b = decide (s ≤ b ∧ b < s + n) := by
  unfold part; rw [bitsOf_bit]; simp [hb]
theorem part_eq (s n : Nat) (hn : 0 < n) (h : s + n ≤ 64) : 18446744073709551615 / 2 ^ (64 - n) * 2 ^ s % 18446744073709551616 = part s n := by
  refine eq_bitsOf (Nat.mod_lt _ (by omega)) fun b hb => ?_
  have e1 : (18446744073709551616 : Nat) = 2 ^ 64 := by decide
  have e2 : (18446744073709551615 : Nat) = 2 ^ 64 - 1 := by decide
  rw [e1, Nat.testBit_mod_two_pow, Nat.testBit_mul_two_pow, e2, Nat.testBit_div_two_pow, Nat.testBit_two_pow_sub_one]
  rw [Bool.eq_iff_iff]
  simp
  omega
theorem word_fill_at (l : List Bool) (f0 f e : Nat) (b : Bool) (h0 : f0 ≤ f) (hfe : f < e) (hel : e ≤ l.length) (hew : e ≤ (f / 64 + 1) * 64) :
    word (fillL l f0 e b) (f / 64) = if b then word (fillL l f0 f b) (f / 64) ||| part (f % 64) (e - f) else word (fillL l f0 f b) (f / 64) &&& (18446744073709551615 - part (f % 64) (e - f)) := by
  have e2 : (18446744073709551615 : Nat) = 2 ^ 64 - 1 := by decide
  cases b
  · rw [if_neg (by simp)]
    refine (eq_word (Nat.lt_of_le_of_lt Nat.and_le_left (word_lt _ _)) fun c hc => ?_).symm
    have hp := part_lt (f % 64) (e - f)
    have e3 : 18446744073709551615 - part (f % 64) (e - f) = 2 ^ 64 - (part (f % 64) (e - f) + 1) := by omega
    rw [Nat.testBit_and, word_bit _ _ _ hc, e3, Nat.testBit_two_pow_sub_succ hp, part_bit _ _ _ hc, fillL_get _ _ _ _ _ hel, fillL_get _ _ _ _ _ (by omega)]
    by_cases h1 : f0 ≤ 64 * (f / 64) + c ∧ 64 * (f / 64) + c < f
    · rw [if_pos h1, if_pos (by omega)]; simp
    · rw [if_neg h1]
      by_cases h2 : f % 64 ≤ c ∧ c < f % 64 + (e - f)
      · rw [if_pos (by omega)]; simp [h2]
      · rw [if_neg (by omega)]; simp [h2, hc]
  · rw [if_pos rfl]
    refine (eq_word (Nat.or_lt_two_pow (n := 64) (word_lt _ _) (part_lt _ _)) fun c hc => ?_).symm
    rw [Nat.testBit_or, word_bit _ _ _ hc, part_bit _ _ _ hc, fillL_get _ _ _ _ _ hel, fillL_get _ _ _ _ _ (by omega)]
    by_cases h1 : f0 ≤ 64 * (f / 64) + c ∧ 64 * (f / 64) + c < f
    · rw [if_pos h1, if_pos (by omega)]; simp
    · rw [if_neg h1]
      by_cases h2 : f % 64 ≤ c ∧ c < f % 64 + (e - f)
      · rw [if_pos (by omega)]; simp [h2]
      · rw [if_neg (by omega)]; simp [h2]
theorem word_fill_far (l : List Bool) (f0 f e j : Nat) (b : Bool) (h0 : f0 ≤ f) (hfe : f < e) (hel : e ≤ l.length) (hew : e ≤ (f / 64 + 1) * 64) (hj : j ≠ f / 64) :
    word (fillL l f0 e b) j = word (fillL l f0 f b) j := by
  refine word_eq fun c hc => ?_
  rw [fillL_get _ _ _ _ _ hel, fillL_get _ _ _ _ _ (by omega)]
  by_cases h1 : f0 ≤ 64 * j + c ∧ 64 * j + c < f
  · rw [if_pos h1, if_pos (by omega)]
  · rw [if_neg h1, if_neg (by omega)]

/-! ### the first i truths, the others not so -/
def headL (l : List Bool) (i : Nat) : List Bool := tab l.length fun j => decide (j < i) && l.getD j false
theorem headL_length (l : List Bool) (i : Nat) : (headL l i).length = l.length := tab_length _ _
theorem headL_get (l : List Bool) (i j : Nat) : (headL l i).getD j false = (decide (j < i) && l.getD j false) := by
  unfold headL
  rw [tab_get]
  by_cases h : j < l.length
  · simp [h]
  · rw [get_past (l := l) (by omega)]; simp
theorem headL_all (l : List Bool) : headL l l.length = l :=
  list_eq (headL_length _ _) fun i hi => by rw [headL_length] at hi; rw [headL_get]; simp [hi]
theorem headL_skip (l : List Bool) (i : Nat) (h : l.getD i false = false) : headL l (i + 1) = headL l i :=
  list_eq (by rw [headL_length, headL_length]) fun j _ => by
    rw [headL_get, headL_get]
    by_cases hj : j = i
    · subst hj; rw [h]; simp
    · have : decide (j < i + 1) = decide (j < i) := decide_eq_decide.2 (by omega)
      rw [this]
theorem word_head_at (l : List Bool) (i : Nat) (h : l.getD i false = true) : word (headL l (i + 1)) (i / 64) = word (headL l i) (i / 64) ||| 2 ^ (i % 64) := by
  have h2 : 2 ^ (i % 64) < 2 ^ 64 := Nat.pow_lt_pow_right (by omega) (by omega)
  refine (eq_word (Nat.or_lt_two_pow (n := 64) (word_lt _ _) h2) fun b hb => ?_).symm
  rw [Nat.testBit_or, word_bit _ _ _ hb, headL_get, headL_get, Nat.testBit_two_pow]
  by_cases e : i % 64 = b
  · have : 64 * (i / 64) + b = i := by omega
    rw [this, h]; simp [e]
  · have : decide (64 * (i / 64) + b < i + 1) = decide (64 * (i / 64) + b < i) := decide_eq_decide.2 (by omega)
    rw [this]; simp [e]
theorem word_head_far (l : List Bool) (i j : Nat) (h : j ≠ i / 64) : word (headL l (i + 1)) j = word (headL l i) j := by
  refine word_eq fun b hb => ?_
  rw [headL_get, headL_get]
  have : decide (64 * j + b < i + 1) = decide (64 * j + b < i) := decide_eq_decide.2 (by omega)
  rw [this]
theorem headL_zero (l : List Bool) : headL l 0 = List.replicate l.length false :=
  list_eq (by rw [headL_length]; simp) fun j hj => by
    rw [headL_length] at hj
    rw [headL_get]; simp [List.getD, hj]

/-! ### how many -/
def popc (f : Nat → Bool) : Nat → Nat
  | 0 => 0
  | n + 1 => popc f n + (if f n then 1 else 0)
theorem popc_succ (f : Nat → Bool) (n : Nat) : popc f (n + 1) = popc f n + (if f n then 1 else 0) := rfl
theorem popc_le (f : Nat → Bool) (n : Nat) : popc f n ≤ n := by
  induction n with
  | zero => simp [popc]
  | succ n ih => unfold popc; split <;> omega
theorem popc_congr {f g : Nat → Bool} {n : Nat} (h : ∀ i, i < n → f i = g i) : popc f n = popc g n := by
  induction n with
  | zero => rfl
  | succ n ih => unfold popc; rw [ih fun i hi => h i (by omega), h n (by omega)]
theorem popc_add (f : Nat → Bool) (a n : Nat) : popc f (a + n) = popc f a + popc (fun i => f (a + i)) n := by
  induction n with
  | zero => simp [popc]
  | succ n ih => rw [← Nat.add_assoc, popc_succ, popc_succ, ih]; omega
def cnt (l : List Bool) : Nat := popc (fun i => l.getD i false) l.length
theorem cnt_past (l : List Bool) (n : Nat) (h : l.length ≤ n) : popc (fun i => l.getD i false) n = cnt l := by
  obtain ⟨k, rfl⟩ : ∃ k, n = l.length + k := ⟨n - l.length, by omega⟩
  rw [popc_add]
  have : popc (fun i => l.getD (l.length + i) false) k = 0 := by
    induction k with
    | zero => rfl
    | succ k ih => unfold popc; rw [ih (by omega), get_past (by omega)]; rfl
  rw [this]; rfl
theorem popc_word (l : List Bool) (j : Nat) : popc (fun i => (word l j).testBit i) 64 = popc (fun i => l.getD (64 * j + i) false) 64 :=
  popc_congr fun i hi => word_bit l j i hi
theorem cnt_step (l : List Bool) (j : Nat) : popc (fun i => l.getD i false) (64 * (j + 1)) = popc (fun i => l.getD i false) (64 * j) + popc (fun i => (word l j).testBit i) 64 := by
  rw [popc_word, show 64 * (j + 1) = 64 * j + 64 by omega, popc_add]

/-! ### the next -/
/-- r is the first place from f on at which it is b; the length, if there is none. -/
def IsNext (l : List Bool) (f : Nat) (b : Bool) (r : Nat) : Prop := r ≤ l.length ∧ (∀ i, f ≤ i → i < r → l.getD i false = !b) ∧ (r < l.length → f ≤ r ∧ l.getD r false = b)
theorem IsNext.one {l : List Bool} {f : Nat} {b : Bool} {r s : Nat} (h : IsNext l f b r) (k : IsNext l f b s) : r = s := by
  obtain ⟨h1, h2, h3⟩ := h
  obtain ⟨k1, k2, k3⟩ := k
  rcases Nat.lt_trichotomy r s with hl | he | hl
  · obtain ⟨a1, a2⟩ := h3 (by omega)
    have := k2 r a1 hl
    rw [a2] at this
    cases b <;> cases this
  · exact he
  · obtain ⟨a1, a2⟩ := k3 (by omega)
    have := h2 s a1 hl
    rw [a2] at this
    cases b <;> cases this
end Go.Proofs.Ytabkgdichlebmaa
