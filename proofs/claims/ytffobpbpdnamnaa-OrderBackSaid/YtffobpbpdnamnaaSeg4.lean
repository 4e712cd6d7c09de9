/-
  Layer 4: places between two bounds in their order; two such laid as one; pieces of a row. Plain: nothing of a program.
-/
import Derived.Test.YtffobpbpdnamnaaMerge4
namespace Go.Proofs.Ytffobpbpdnamnaa
open Go.ChangeShapes Go.WideShapes Go.ChangeAt Go.RowKit
set_option linter.unusedVariables false

/-- p are the places from a on, ahead of b, in their order. -/
def Seg (f : Nat → Int) (a b : Nat) (p : List Nat) : Prop := p.Pairwise (Ahead f) ∧ ∀ x, x ∈ p ↔ a ≤ x ∧ x < b
theorem Seg.inOrder {f : Nat → Int} {n : Nat} {p : List Nat} (h : Seg f 0 n p) : InOrder f n p := ⟨h.1, fun x => (h.2 x).trans ⟨fun h => h.2, fun h => ⟨Nat.zero_le _, h⟩⟩⟩
theorem Seg.one (f : Nat → Int) (a : Nat) : Seg f a (a + 1) [a] := ⟨List.pairwise_singleton _ _, fun x => by rw [List.mem_singleton]; omega⟩
/-- two rows as one, by f, those of the first of those that are alike. -/
def mrgN (f : Nat → Int) : List Nat → List Nat → List Nat
  | [], b => b
  | x :: a, [] => x :: a
  | x :: a, y :: b => if f x ≤ f y then x :: mrgN f a (y :: b) else y :: mrgN f (x :: a) b
termination_by a b => a.length + b.length
theorem mrgN_nil_left (f : Nat → Int) (b : List Nat) : mrgN f [] b = b := by unfold mrgN; rfl
theorem mrgN_nil_right (f : Nat → Int) (a : List Nat) : mrgN f a [] = a := by cases a <;> (unfold mrgN; rfl)
theorem mrgN_a {f : Nat → Int} {x y : Nat} {a b : List Nat} (h : f x ≤ f y) : mrgN f (x :: a) (y :: b) = x :: mrgN f a (y :: b) := by rw [mrgN, if_pos h]
theorem mrgN_b {f : Nat → Int} {x y : Nat} {a b : List Nat} (h : ¬ f x ≤ f y) : mrgN f (x :: a) (y :: b) = y :: mrgN f (x :: a) b := by rw [mrgN, if_neg h]
theorem mrgN_mem (f : Nat → Int) (a b : List Nat) (z : Nat) : z ∈ mrgN f a b ↔ z ∈ a ∨ z ∈ b := by
  obtain ⟨n, hn⟩ : ∃ n, n = a.length + b.length := ⟨_, rfl⟩
  induction n generalizing a b with
  | zero =>
    obtain rfl : a = [] := List.eq_nil_of_length_eq_zero (by omega)
    rw [mrgN_nil_left]; simp
  | succ n ih =>
    cases a with
    | nil => rw [mrgN_nil_left]; simp
    | cons x a =>
      cases b with
      | nil => rw [mrgN_nil_right]; simp
      | cons y b =>
        simp only [List.length_cons] at hn
        by_cases h : f x ≤ f y
        · rw [mrgN_a h, List.mem_cons, ih a (y :: b) (by simp only [List.length_cons]; omega)]
          simp only [List.mem_cons, or_assoc]
        · rw [mrgN_b h, List.mem_cons, ih (x :: a) b (by simp only [List.length_cons]; omega)]
          simp only [List.mem_cons]
          constructor
          · rintro (h | (h | h) | h)
            · exact .inr (.inl h)
            · exact .inl (.inl h)
            · exact .inl (.inr h)
            · exact .inr (.inr h)
          · rintro ((h | h) | (h | h))
            · exact .inr (.inl (.inl h))
            · exact .inr (.inl (.inr h))
            · exact .inl h
            · exact .inr (.inr h)
theorem mrgN_up {f : Nat → Int} {a b : List Nat} (ha : a.Pairwise (Ahead f)) (hb : b.Pairwise (Ahead f)) (hab : ∀ x ∈ a, ∀ y ∈ b, x < y) : (mrgN f a b).Pairwise (Ahead f) := by
  obtain ⟨n, hn⟩ : ∃ n, n = a.length + b.length := ⟨_, rfl⟩
  induction n generalizing a b with
  | zero =>
    obtain rfl : a = [] := List.eq_nil_of_length_eq_zero (by omega)
    rw [mrgN_nil_left]; exact hb
  | succ n ih =>
    cases a with
    | nil => rw [mrgN_nil_left]; exact hb
    | cons x a =>
      cases b with
      | nil => rw [mrgN_nil_right]; exact ha
      | cons y b =>
        simp only [List.length_cons] at hn
        have hxy := hab x (List.mem_cons_self ..) y (List.mem_cons_self ..)
        have ha' := List.pairwise_cons.1 ha
        have hb' := List.pairwise_cons.1 hb
        by_cases h : f x ≤ f y
        · have hA : Ahead f x y := by unfold Ahead; omega
          rw [mrgN_a h]
          refine List.pairwise_cons.2 ⟨fun z hz => ?_, ih ha'.2 hb (fun u hu v hv => hab u (List.mem_cons_of_mem _ hu) v hv) (by simp only [List.length_cons]; omega)⟩
          rcases (mrgN_mem f a (y :: b) z).1 hz with h1 | h1
          · exact ha'.1 z h1
          · rcases List.mem_cons.1 h1 with e | h2
            · subst e; exact hA
            · exact hA.trans (hb'.1 z h2)
        · have hA : Ahead f y x := by unfold Ahead; omega
          rw [mrgN_b h]
          refine List.pairwise_cons.2 ⟨fun z hz => ?_, ih ha hb'.2 (fun u hu v hv => hab u hu v (List.mem_cons_of_mem _ hv)) (by simp only [List.length_cons]; omega)⟩
          rcases (mrgN_mem f (x :: a) b z).1 hz with h1 | h1
          · rcases List.mem_cons.1 h1 with e | h2
            · subst e; exact hA
            · exact hA.trans (ha'.1 z h2)
          · exact hb'.1 z h1
theorem Seg.merge {f : Nat → Int} {a m b : Nat} {p q : List Nat} (hp : Seg f a m p) (hq : Seg f m b q) (h1 : a ≤ m) (h2 : m ≤ b) : Seg f a b (mrgN f p q) := by
  refine ⟨mrgN_up hp.1 hq.1 fun x hx y hy => ?_, fun x => ?_⟩
  · have := (hp.2 x).1 hx; have := (hq.2 y).1 hy; omega
  · rw [mrgN_mem, hp.2 x, hq.2 x]; omega
/-- laid one behind the other, where the last of the first run is not behind the first of the second. -/
theorem Seg.append {f : Nat → Int} {a m b : Nat} {p q : List Nat} (hp : Seg f a m p) (hq : Seg f m b q) (h1 : a ≤ m) (h2 : m ≤ b) (hle : 0 < p.length → 0 < q.length → f (p.getD (p.length - 1) 0) ≤ f (q.getD 0 0)) : Seg f a b (p ++ q) := by
  refine ⟨List.pairwise_append.2 ⟨hp.1, hq.1, fun x hx y hy => ?_⟩, fun x => ?_⟩
  · have hx1 := (hp.2 x).1 hx
    have hy1 := (hq.2 y).1 hy
    have hf : f x ≤ f (p.getD (p.length - 1) 0) := by
      obtain ⟨i, hi, e⟩ := List.getElem_of_mem hx
      rcases Nat.lt_or_ge i (p.length - 1) with h | h
      · have := List.pairwise_iff_getElem.1 hp.1 i (p.length - 1) hi (by omega) h
        rw [e] at this
        simp only [List.getD, List.getElem?_eq_getElem (show p.length - 1 < p.length by omega), Option.getD_some]
        unfold Ahead at this; omega
      · have : i = p.length - 1 := by omega
        subst this
        simp only [List.getD, List.getElem?_eq_getElem (show p.length - 1 < p.length by omega), Option.getD_some]
        rw [e]; exact Int.le_refl _
    have hg : f (q.getD 0 0) ≤ f y := by
      obtain ⟨i, hi, e⟩ := List.getElem_of_mem hy
      rcases Nat.eq_zero_or_pos i with h | h
      · subst h
        simp only [List.getD, List.getElem?_eq_getElem (show 0 < q.length by omega), Option.getD_some]
        rw [e]; exact Int.le_refl _
      · have := List.pairwise_iff_getElem.1 hq.1 0 i (by omega) hi h
        rw [e] at this
        simp only [List.getD, List.getElem?_eq_getElem (show 0 < q.length by omega), Option.getD_some]
        unfold Ahead at this; omega
    have := hle (List.length_pos_of_mem hx) (List.length_pos_of_mem hy)
    unfold Ahead; omega
  · rw [List.mem_append, hp.2 x, hq.2 x]; omega

/-! ### pieces of a row -/
/-- what stands from place a on, ahead of place b. -/
def piece {α : Type} (r : List α) (a b : Nat) : List α := (r.drop a).take (b - a)
theorem piece_get {α : Type} (r : List α) (a b i : Nat) : (piece r a b)[i]? = if i < b - a then r[a + i]? else none := by
  unfold piece
  by_cases h : i < b - a
  · rw [if_pos h, List.getElem?_take_of_lt h, List.getElem?_drop]
  · rw [if_neg h, List.getElem?_eq_none (by rw [List.length_take]; omega)]
theorem piece_length {α : Type} {r : List α} {a b : Nat} (h : b ≤ r.length) : (piece r a b).length = b - a := by
  unfold piece
  rw [List.length_take, List.length_drop]; omega
theorem splice_at {α : Type} {r cs : List α} {off i : Nat} (h : off + cs.length ≤ r.length) : (splice r off cs)[i]? = if off ≤ i ∧ i < off + cs.length then cs[i - off]? else r[i]? := by
  unfold splice
  rcases Nat.lt_or_ge i off with h1 | h1
  · rw [if_neg (by omega), List.getElem?_append_left (by rw [List.length_take]; omega), List.getElem?_take_of_lt h1]
  · rw [List.getElem?_append_right (by rw [List.length_take]; omega), List.length_take, Nat.min_eq_left (by omega)]
    rcases Nat.lt_or_ge i (off + cs.length) with h2 | h2
    · rw [if_pos ⟨h1, h2⟩, List.getElem?_append_left (by omega)]
    · rw [if_neg (by omega), List.getElem?_append_right (by omega), List.getElem?_drop, show off + cs.length + (i - off - cs.length) = i by omega]
theorem piece_splice {α : Type} {r cs : List α} {off b : Nat} (h : off + cs.length ≤ r.length) (hb : b = off + cs.length) : piece (splice r off cs) off b = cs := by
  apply List.ext_getElem?
  intro i
  rw [piece_get, splice_at h]
  subst hb
  by_cases e : i < cs.length
  · rw [if_pos (by omega), if_pos (by omega), show off + i - off = i by omega]
  · rw [if_neg (by omega), List.getElem?_eq_none (by omega)]
theorem piece_apart {α : Type} {r cs : List α} {off a b : Nat} (h : off + cs.length ≤ r.length) (hab : b ≤ off ∨ off + cs.length ≤ a) : piece (splice r off cs) a b = piece r a b := by
  apply List.ext_getElem?
  intro i
  rw [piece_get, piece_get, splice_at h]
  by_cases e : i < b - a
  · rw [if_pos e, if_pos e, if_neg (by omega)]
  · rw [if_neg e, if_neg e]
theorem piece_join {α : Type} {r : List α} {a m b : Nat} (h1 : a ≤ m) (h2 : m ≤ b) (h3 : b ≤ r.length) : piece r a b = piece r a m ++ piece r m b := by
  apply List.ext_getElem?
  intro i
  rw [piece_get]
  by_cases e : i < m - a
  · rw [List.getElem?_append_left (by rw [piece_length (by omega)]; exact e), piece_get, if_pos e, if_pos (by omega)]
  · rw [List.getElem?_append_right (by rw [piece_length (by omega)]; omega), piece_length (by omega), piece_get]
    by_cases e2 : i < b - a
    · rw [if_pos e2, if_pos (by omega), show m + (i - (m - a)) = a + i by omega]
    · rw [if_neg e2, if_neg (by omega)]
theorem piece_all {α : Type} (r : List α) : piece r 0 r.length = r := by unfold piece; simp
theorem piece_getD {r : List Nat} {a b i : Nat} (h : i < b - a) : (piece r a b).getD i 0 = r.getD (a + i) 0 := by
  simp only [List.getD]
  rw [piece_get, if_pos h]

/-! ### places as whole numbers -/
theorem placesI_piece (r : List Nat) (a b : Nat) : placesI (piece r a b) = piece (placesI r) a b := by unfold placesI piece; simp
theorem placesI_splice (r cs : List Nat) (off : Nat) : placesI (splice r off cs) = splice (placesI r) off (placesI cs) := by unfold placesI splice; simp
theorem placesI_merge (f : Nat → Int) (K : Int → Int) (hK : ∀ x : Nat, K (x : Int) = f x) (a b : List Nat) : mrgK K (placesI a) (placesI b) = placesI (mrgN f a b) := by
  obtain ⟨n, hn⟩ : ∃ n, n = a.length + b.length := ⟨_, rfl⟩
  induction n generalizing a b with
  | zero =>
    obtain rfl : a = [] := List.eq_nil_of_length_eq_zero (by omega)
    rw [mrgN_nil_left]; exact mrgK_nil_left _ _
  | succ n ih =>
    cases a with
    | nil => rw [mrgN_nil_left]; exact mrgK_nil_left _ _
    | cons x a =>
      cases b with
      | nil => rw [mrgN_nil_right]; exact mrgK_nil_right _ _
      | cons y b =>
        simp only [List.length_cons] at hn
        show mrgK K ((x : Int) :: placesI a) ((y : Int) :: placesI b) = _
        by_cases h : f x ≤ f y
        · rw [mrgN_a h, mrgK_a (by rw [hK, hK]; exact h)]
          show (x : Int) :: mrgK K (placesI a) (placesI (y :: b)) = (x : Int) :: placesI _
          rw [ih a (y :: b) (by simp only [List.length_cons]; omega)]
        · rw [mrgN_b h, mrgK_b (by rw [hK, hK]; exact h)]
          show (y : Int) :: mrgK K (placesI (x :: a)) (placesI b) = (y : Int) :: placesI _
          rw [ih (x :: a) b (by simp only [List.length_cons]; omega)]
theorem mrgN_length (f : Nat → Int) (a b : List Nat) : (mrgN f a b).length = a.length + b.length := by
  have h := congrArg List.length (placesI_merge f (fun z => f z.toNat) (fun x => by rw [Int.toNat_natCast]) a b)
  rw [mrgK_length, placesI_length, placesI_length, placesI_length] at h
  exact h.symm
theorem mem_placesI {p : List Nat} {z : Int} (h : z ∈ placesI p) : ∃ x : Nat, x ∈ p ∧ z = (x : Int) := by
  unfold placesI at h
  rw [List.mem_map] at h
  obtain ⟨x, hx, e⟩ := h
  exact ⟨x, hx, e.symm⟩
end Go.Proofs.Ytffobpbpdnamnaa
