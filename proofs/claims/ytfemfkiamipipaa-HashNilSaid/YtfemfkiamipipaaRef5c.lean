/-
  Layer 5: the reference's Parts of a tuple: what its loop leans on.
-/
import Derived.Test.YtfemfkiamipipaaRef5b
namespace Go.Proofs.Ytfemfkiamipipaa
open Go.ChangeShapes Go.WideShapes Go.ChangeAt Go.RowKit
set_option linter.unusedVariables false

theorem parse_step (f : Nat) (c : UInt8) (t : List UInt8) : parseL (f + 1) (c :: t) = if c = 0 ∧ 8 ≤ t.length then (parseL f (t.drop 8)).map (⟨0, (numB (t.take 8) : Int) - 9223372036854775808, noS⟩ :: ·) else match t with
      | [] => none
      | m :: r => if c = 1 ∧ m.toNat ≤ 32 ∧ m.toNat ≤ r.length then (parseL f (r.drop m.toNat)).map (⟨1, 0, txt (r.take m.toNat)⟩ :: ·) else none := rfl
theorem parse_int (f : Nat) (t : List UInt8) (h : 8 ≤ t.length) : parseL (f + 1) (0 :: t) = (parseL f (t.drop 8)).map (⟨0, (numB (t.take 8) : Int) - 9223372036854775808, noS⟩ :: ·) := by
  rw [parse_step, if_pos ⟨rfl, h⟩]
theorem parse_txt (f : Nat) (m : UInt8) (r : List UInt8) (h1 : m.toNat ≤ 32) (h2 : m.toNat ≤ r.length) : parseL (f + 1) (1 :: m :: r) = (parseL f (r.drop m.toNat)).map (⟨1, 0, txt (r.take m.toNat)⟩ :: ·) := by
  have e : parseL (f + 1) (1 :: m :: r) = if (1 : UInt8) = 0 ∧ 8 ≤ (m :: r).length then (parseL f ((m :: r).drop 8)).map (⟨0, (numB ((m :: r).take 8) : Int) - 9223372036854775808, txt []⟩ :: ·) else if (1 : UInt8) = 1 ∧ m.toNat ≤ 32 ∧ m.toNat ≤ r.length then (parseL f (r.drop m.toNat)).map (⟨1, 0, txt (r.take m.toNat)⟩ :: ·) else none := rfl
  rw [e, if_neg (by rintro ⟨h, _⟩; exact absurd h (by decide)), if_pos ⟨rfl, h1, h2⟩]
theorem parse_bad (f : Nat) (c : UInt8) (t : List UInt8) (h0 : ¬ (c = 0 ∧ 8 ≤ t.length)) (h : c ≠ 1 ∨ t.length < 1 ∨ ∃ m r, t = m :: r ∧ (32 < m.toNat ∨ r.length < m.toNat)) : parseL (f + 1) (c :: t) = none := by
  unfold parseL
  rw [if_neg h0]
  cases t with
  | nil => rfl
  | cons m r =>
    simp only
    rw [if_neg ?_]
    rintro ⟨h1, h2, h3⟩
    rcases h with h | h | ⟨m', r', e, h⟩
    · exact h h1
    · simp at h
    · injection e with e1 e2
      subst e1; subst e2
      omega
/-- what has been parsed, and what is left. -/
def Left (b : List UInt8) (o : List Lab) (L : List UInt8) : Prop := o.length ≤ 4 ∧ parseL 4 b = (parseL (4 - o.length) L).map (o ++ ·)
theorem Left.start (b : List UInt8) : Left b [] b := ⟨by simp, by simp⟩
theorem Left.int {b t : List UInt8} {o : List Lab} (h : Left b o (0 :: t)) (ho : o.length < 4) (ht : 8 ≤ t.length) : Left b (o ++ [⟨0, (numB (t.take 8) : Int) - 9223372036854775808, noS⟩]) (t.drop 8) := by
  refine ⟨by rw [List.length_append]; simp; omega, ?_⟩
  obtain ⟨f, hf⟩ : ∃ f, 4 - o.length = f + 1 := ⟨3 - o.length, by omega⟩
  rw [h.2, hf, parse_int f t ht, List.length_append, List.length_singleton, show 4 - (o.length + 1) = f by omega]
  cases parseL f (t.drop 8) <;> simp
theorem Left.txt {b r : List UInt8} {m : UInt8} {o : List Lab} (h : Left b o (1 :: m :: r)) (ho : o.length < 4) (h1 : m.toNat ≤ 32) (h2 : m.toNat ≤ r.length) : Left b (o ++ [⟨1, 0, txt (r.take m.toNat)⟩]) (r.drop m.toNat) := by
  refine ⟨by rw [List.length_append]; simp; omega, ?_⟩
  obtain ⟨f, hf⟩ : ∃ f, 4 - o.length = f + 1 := ⟨3 - o.length, by omega⟩
  rw [h.2, hf, parse_txt f m r h1 h2, List.length_append, List.length_singleton, show 4 - (o.length + 1) = f by omega]
  cases parseL f (r.drop m.toNat) <;> simp
theorem Left.bad {b t : List UInt8} {c : UInt8} {o : List Lab} (h : Left b o (c :: t)) (ho : o.length < 4) (h0 : ¬ (c = 0 ∧ 8 ≤ t.length)) (h1 : c ≠ 1 ∨ t.length < 1 ∨ ∃ m r, t = m :: r ∧ (32 < m.toNat ∨ r.length < m.toNat)) : parseL 4 b = none := by
  obtain ⟨f, hf⟩ : ∃ f, 4 - o.length = f + 1 := ⟨3 - o.length, by omega⟩
  rw [h.2, hf, parse_bad f c t h0 h1]; rfl
theorem Left.full {b t : List UInt8} {c : UInt8} {o : List Lab} (h : Left b o (c :: t)) (ho : o.length = 4) : parseL 4 b = none := by
  rw [h.2, ho]; rfl
theorem Left.done {b : List UInt8} {o : List Lab} (h : Left b o []) : parseL 4 b = some o := by
  rw [h.2]
  have : parseL (4 - o.length) [] = some [] := by cases (4 - o.length) <;> rfl
  rw [this]; simp
theorem parts_two (n : Int) (s : ByteArray) : partsE ⟨2, n, s⟩ = match parseL 4 s.data.toList with
    | some out => if out ≠ [] ∧ n = out.length then some out else none
    | none => none := by
  unfold partsE
  rw [if_neg (by rintro (⟨h, _⟩ | ⟨h, _⟩); exact absurd h (show ¬ (2 : Int) = 0 by decide); exact absurd h (show ¬ (2 : Int) = 1 by decide)), if_neg (show ¬ (2 : Int) ≠ 2 by decide)]
  rfl
theorem parts_left {n : Int} {s : ByteArray} {o : List Lab} (h : parseL 4 s.data.toList = some o) (h1 : o ≠ []) (h2 : n = o.length) : partsE ⟨2, n, s⟩ = some o := by
  rw [parts_two, h]
  simp only
  rw [if_pos ⟨h1, h2⟩]
theorem parts_gone {n : Int} {s : ByteArray} (h : parseL 4 s.data.toList = none) : partsE ⟨2, n, s⟩ = none := by
  rw [parts_two, h]
theorem parts_odd {n : Int} {s : ByteArray} {o : List Lab} (h : parseL 4 s.data.toList = some o) (h1 : o = [] ∨ n ≠ o.length) : partsE ⟨2, n, s⟩ = none := by
  rw [parts_two, h]
  simp only
  rw [if_neg (by rintro ⟨h2, h3⟩; rcases h1 with h1 | h1; exact h2 h1; exact h1 h3)]

/-! ### a text's bytes -/
theorem data_size (r : ByteArray) : r.data.toList.length = r.size := (Lib.size_eq r).symm
theorem data_cons {r : ByteArray} (h : 0 < r.size) : r.data.toList = r[0] :: r.data.toList.drop 1 := by
  have h1 : 0 < r.data.toList.length := by rw [data_size]; exact h
  have h2 := List.drop_eq_getElem_cons h1
  rw [List.drop_zero] at h2
  exact h2
theorem data_at {r : ByteArray} {i : Nat} (h : i < r.size) : r.data.toList[i]? = some r[i] := Lib.data_getElem? r i h
theorem data_cons2 {r : ByteArray} (h : 1 < r.size) : r.data.toList = r[0]'(by omega) :: r[1] :: r.data.toList.drop 2 := by
  have h1 : 1 < r.data.toList.length := by rw [data_size]; exact h
  have h2 := List.drop_eq_getElem_cons h1
  rw [data_cons (by omega), h2]
  rfl
end Go.Proofs.Ytfemfkiamipipaa
