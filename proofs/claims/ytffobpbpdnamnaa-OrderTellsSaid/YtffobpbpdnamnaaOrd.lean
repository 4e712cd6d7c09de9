/-
  THE ORDER OF PLACES BY NUMBERS, of those that are alike as they stand: what it is, that it is one, how it grows by one place; two rows merged. Plain: nothing of a program.
-/
import Derived.Test.YtffobpbpdnamnaaBase
namespace Go.Proofs.Ytffobpbpdnamnaa
set_option linter.unusedVariables false

/-- place a comes ahead of place b. -/
def Ahead (f : Nat → Int) (a b : Nat) : Prop := f a < f b ∨ (f a = f b ∧ a < b)
theorem Ahead.irrefl {f : Nat → Int} {a : Nat} (h : Ahead f a a) : False := by unfold Ahead at h; omega
theorem Ahead.trans {f : Nat → Int} {a b c : Nat} (h : Ahead f a b) (k : Ahead f b c) : Ahead f a c := by unfold Ahead at *; omega
theorem Ahead.asymm {f : Nat → Int} {a b : Nat} (h : Ahead f a b) (k : Ahead f b a) : False := (h.trans k).irrefl
theorem Ahead.total {f : Nat → Int} {a b : Nat} (h : a ≠ b) : Ahead f a b ∨ Ahead f b a := by unfold Ahead; omega

/-- two rows that each come strictly in one order, with the same members, are one. -/
theorem rows_one {f : Nat → Int} : ∀ {p q : List Nat}, p.Pairwise (Ahead f) → q.Pairwise (Ahead f) → (∀ x, x ∈ p ↔ x ∈ q) → p = q
  | [], [], _, _, _ => rfl
  | [], b :: q, _, _, h => absurd ((h b).2 (List.mem_cons_self ..)) (by simp)
  | a :: p, [], _, _, h => absurd ((h a).1 (List.mem_cons_self ..)) (by simp)
  | a :: p, b :: q, hp, hq, h => by
    rw [List.pairwise_cons] at hp hq
    have e : a = b := by
      rcases Nat.decEq a b with hne | e
      · exfalso
        have h1 : a ∈ q := by
          rcases List.mem_cons.1 ((h a).1 (List.mem_cons_self ..)) with e | m
          · exact absurd e hne
          · exact m
        have h2 : b ∈ p := by
          rcases List.mem_cons.1 ((h b).2 (List.mem_cons_self ..)) with e | m
          · exact absurd e.symm hne
          · exact m
        exact (hp.1 b h2).asymm (hq.1 a h1)
      · exact e
    subst e
    have hm : ∀ x, x ∈ p ↔ x ∈ q := fun x => by
      constructor
      · intro hx
        rcases List.mem_cons.1 ((h x).1 (List.mem_cons_of_mem _ hx)) with e | m
        · subst e; exact ((hp.1 x hx).irrefl).elim
        · exact m
      · intro hx
        rcases List.mem_cons.1 ((h x).2 (List.mem_cons_of_mem _ hx)) with e | m
        · subst e; exact ((hq.1 x hx).irrefl).elim
        · exact m
    rw [rows_one hp.2 hq.2 hm]

/-- p are the places below n in their order. -/
def InOrder (f : Nat → Int) (n : Nat) (p : List Nat) : Prop := p.Pairwise (Ahead f) ∧ ∀ x, x ∈ p ↔ x < n
theorem InOrder.one {f : Nat → Int} {n : Nat} {p q : List Nat} (h : InOrder f n p) (k : InOrder f n q) : p = q := rows_one h.1 k.1 fun x => (h.2 x).trans (k.2 x).symm
theorem InOrder.nodup {f : Nat → Int} {n : Nat} {p : List Nat} (h : InOrder f n p) : p.Nodup := h.1.imp fun hab e => by subst e; exact hab.irrefl
theorem InOrder.length {f : Nat → Int} {n : Nat} {p : List Nat} (h : InOrder f n p) : p.length = n := by
  have hp : p.Perm (List.range n) := (List.perm_ext_iff_of_nodup h.nodup List.nodup_range).2 fun x => by rw [h.2 x, List.mem_range]
  rw [hp.length_eq, List.length_range]
theorem InOrder.none (f : Nat → Int) : InOrder f 0 [] := ⟨List.Pairwise.nil, fun x => by simp⟩
theorem InOrder.congr {f g : Nat → Int} {n : Nat} {p : List Nat} (h : InOrder f n p) (e : ∀ x, x < n → f x = g x) : InOrder g n p := by
  refine ⟨h.1.imp_of_mem fun {a b} ha hb hab => ?_, h.2⟩
  unfold Ahead at *
  rw [← e a ((h.2 a).1 ha), ← e b ((h.2 b).1 hb)]
  exact hab
theorem InOrder.get_lt {f : Nat → Int} {n : Nat} {p : List Nat} (h : InOrder f n p) {i : Nat} (hi : i < n) : p.getD i 0 < n := by
  have hl := h.length
  have : p.getD i 0 ∈ p := by
    simp only [List.getD, List.getElem?_eq_getElem (show i < p.length by omega), Option.getD_some]
    exact List.getElem_mem _
  exact (h.2 _).1 this
theorem InOrder.ahead {f : Nat → Int} {n : Nat} {p : List Nat} (h : InOrder f n p) {i j : Nat} (hij : i < j) (hj : j < n) : Ahead f (p.getD i 0) (p.getD j 0) := by
  have hl := h.length
  have := List.pairwise_iff_getElem.1 h.1 i j (by omega) (by omega) hij
  simpa only [List.getD, List.getElem?_eq_getElem (show i < p.length by omega), List.getElem?_eq_getElem (show j < p.length by omega), Option.getD_some] using this
theorem InOrder.inj {f : Nat → Int} {n : Nat} {p : List Nat} (h : InOrder f n p) {i j : Nat} (hi : i < n) (hj : j < n) (e : p.getD i 0 = p.getD j 0) : i = j := by
  rcases Nat.lt_trichotomy i j with hlt | heq | hgt
  · have := h.ahead hlt hj
    rw [e] at this
    exact this.irrefl.elim
  · exact heq
  · have := h.ahead hgt hi
    rw [e] at this
    exact this.irrefl.elim
theorem InOrder.has {f : Nat → Int} {n : Nat} {p : List Nat} (h : InOrder f n p) {x : Nat} (hx : x < n) : ∃ i, i < n ∧ p.getD i 0 = x := by
  obtain ⟨i, hi, e⟩ := List.getElem_of_mem ((h.2 x).2 hx)
  have hl := h.length
  refine ⟨i, by omega, ?_⟩
  simp only [List.getD, List.getElem?_eq_getElem hi, Option.getD_some]
  exact e

/-! ### one place more -/
/-- where place i goes among those ahead of it: behind all that are not greater. -/
def GoesAt (f : Nat → Int) (i : Nat) (p : List Nat) (k : Nat) : Prop := k ≤ p.length ∧ (0 < k → f (p.getD (k - 1) 0) ≤ f i) ∧ ∀ j, k ≤ j → j < p.length → f i < f (p.getD j 0)
theorem InOrder.insert {f : Nat → Int} {i k : Nat} {p : List Nat} (h : InOrder f i p) (hk : GoesAt f i p k) : InOrder f (i + 1) (p.take k ++ i :: p.drop k) := by
  obtain ⟨h1, h2, h3⟩ := hk
  have hl := h.length
  have ha : ∀ a ∈ p.take k, Ahead f a i := fun a hm => by
    obtain ⟨j, hj, e⟩ := List.getElem_of_mem hm
    rw [List.length_take] at hj
    rw [List.getElem_take] at e
    have hlt : a < i := (h.2 a).1 (List.mem_of_mem_take hm)
    have hle : f a ≤ f i := by
      have h4 := h2 (by omega)
      rcases Nat.lt_or_ge j (k - 1) with hj1 | hj1
      · have h5 := h.ahead (i := j) (j := k - 1) hj1 (by omega)
        have e2 : p.getD j 0 = a := by simp only [List.getD, List.getElem?_eq_getElem (show j < p.length by omega), Option.getD_some]; exact e
        rw [e2] at h5
        unfold Ahead at h5
        omega
      · have e3 : j = k - 1 := by omega
        have e2 : p.getD (k - 1) 0 = a := by
          rw [← e3]
          simp only [List.getD, List.getElem?_eq_getElem (show j < p.length by omega), Option.getD_some]; exact e
        rw [e2] at h4
        exact h4
    unfold Ahead
    omega
  have hb : ∀ b ∈ p.drop k, Ahead f i b := fun b hm => by
    obtain ⟨j, hj, e⟩ := List.getElem_of_mem hm
    rw [List.length_drop] at hj
    rw [List.getElem_drop] at e
    have h4 := h3 (k + j) (by omega) (by omega)
    have e2 : p.getD (k + j) 0 = b := by simp only [List.getD, List.getElem?_eq_getElem (show k + j < p.length by omega), Option.getD_some]; exact e
    rw [e2] at h4
    exact .inl h4
  have hpw := h.1
  rw [← List.take_append_drop k p, List.pairwise_append] at hpw
  refine ⟨?_, fun x => ?_⟩
  · rw [List.pairwise_append]
    refine ⟨hpw.1, List.pairwise_cons.2 ⟨hb, hpw.2.1⟩, fun a hm b hm2 => ?_⟩
    rcases List.mem_cons.1 hm2 with e | hm3
    · subst e; exact ha a hm
    · exact hpw.2.2 a hm b hm3
  · rw [List.mem_append, List.mem_cons]
    have hx : (x ∈ p.take k ∨ x ∈ p.drop k) ↔ x < i := by
      rw [← h.2 x, ← List.mem_append, List.take_append_drop]
    constructor
    · rintro (hm | e | hm)
      · have := hx.1 (.inl hm); omega
      · omega
      · have := hx.1 (.inr hm); omega
    · intro hlt
      rcases Nat.lt_or_ge x i with h5 | h5
      · rcases hx.2 h5 with hm | hm
        · exact .inl hm
        · exact .inr (.inr hm)
      · exact .inr (.inl (by omega))
/-- of places that are all alike the order is as they stand. -/
theorem InOrder.range {f : Nat → Int} {n : Nat} (h : ∀ a b, a < n → b < n → f a = f b) : InOrder f n (List.range n) := by
  refine ⟨?_, fun x => List.mem_range⟩
  refine List.pairwise_iff_getElem.2 fun i j hi hj hij => ?_
  rw [List.length_range] at hi hj
  rw [List.getElem_range, List.getElem_range]
  exact .inr ⟨h i j hi hj, hij⟩

/-! ### two rows as one, those of a first of those that are alike -/
def mrg : List Int → List Int → List Int
  | [], b => b
  | x :: a, [] => x :: a
  | x :: a, y :: b => if x ≤ y then x :: mrg a (y :: b) else y :: mrg (x :: a) b
termination_by a b => a.length + b.length
theorem mrg_nil_left (b : List Int) : mrg [] b = b := by unfold mrg; rfl
theorem mrg_nil_right (a : List Int) : mrg a [] = a := by cases a <;> (unfold mrg; rfl)
theorem mrg_a {x y : Int} {a b : List Int} (h : x ≤ y) : mrg (x :: a) (y :: b) = x :: mrg a (y :: b) := by rw [mrg, if_pos h]
theorem mrg_b {x y : Int} {a b : List Int} (h : ¬ x ≤ y) : mrg (x :: a) (y :: b) = y :: mrg (x :: a) b := by rw [mrg, if_neg h]
theorem mrg_length (a b : List Int) : (mrg a b).length = a.length + b.length := by
  obtain ⟨n, hn⟩ : ∃ n, n = a.length + b.length := ⟨_, rfl⟩
  induction n generalizing a b with
  | zero =>
    obtain rfl : a = [] := List.eq_nil_of_length_eq_zero (by omega)
    rw [mrg_nil_left]; simp
  | succ n ih =>
    cases a with
    | nil => rw [mrg_nil_left]; simp
    | cons x a =>
      cases b with
      | nil => rw [mrg_nil_right]; simp
      | cons y b =>
        simp only [List.length_cons] at hn
        by_cases h : x ≤ y
        · rw [mrg_a h, List.length_cons, ih a (y :: b) (by simp only [List.length_cons]; omega)]
          simp only [List.length_cons]; omega
        · rw [mrg_b h, List.length_cons, ih (x :: a) b (by simp only [List.length_cons]; omega)]
          simp only [List.length_cons]; omega
/-- one step of the merge, at places i and k. -/
theorem mrg_take {a b : List Int} {i k : Nat} (hi : i < a.length) (h : b.length ≤ k ∨ a.getD i 0 ≤ b.getD k 0) : mrg (a.drop i) (b.drop k) = a.getD i 0 :: mrg (a.drop (i + 1)) (b.drop k) := by
  have e : a.drop i = a.getD i 0 :: a.drop (i + 1) := by
    rw [List.drop_eq_getElem_cons hi]
    simp only [List.getD, List.getElem?_eq_getElem hi, Option.getD_some]
  rcases Nat.lt_or_ge k b.length with hk | hk
  · have e2 : b.drop k = b.getD k 0 :: b.drop (k + 1) := by
      rw [List.drop_eq_getElem_cons hk]
      simp only [List.getD, List.getElem?_eq_getElem hk, Option.getD_some]
    rw [e, e2, mrg_a (by omega)]
  · rw [List.drop_eq_nil_of_le hk, mrg_nil_right, mrg_nil_right, e]
theorem mrg_give {a b : List Int} {i k : Nat} (hk : k < b.length) (h : a.length ≤ i ∨ ¬ a.getD i 0 ≤ b.getD k 0) : mrg (a.drop i) (b.drop k) = b.getD k 0 :: mrg (a.drop i) (b.drop (k + 1)) := by
  have e2 : b.drop k = b.getD k 0 :: b.drop (k + 1) := by
    rw [List.drop_eq_getElem_cons hk]
    simp only [List.getD, List.getElem?_eq_getElem hk, Option.getD_some]
  rcases Nat.lt_or_ge i a.length with hi | hi
  · have e : a.drop i = a.getD i 0 :: a.drop (i + 1) := by
      rw [List.drop_eq_getElem_cons hi]
      simp only [List.getD, List.getElem?_eq_getElem hi, Option.getD_some]
    rw [e, e2, mrg_b (by omega)]
  · rw [List.drop_eq_nil_of_le hi, mrg_nil_left, mrg_nil_left, e2]
end Go.Proofs.Ytffobpbpdnamnaa
