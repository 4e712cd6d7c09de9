/-
  How long labels' texts are; what is read is a label as it comes. Plain.
-/
import Derived.Test.YtblmnbaejfhagaaGreatDoorKnows5
namespace Go.Proofs.YtblmnbaejfhagaaGreatDoor
open Go
set_option linter.unusedVariables false

theorem decL_length : ∀ (k n : Nat), n < 10 ^ (k + 1) → (decL n).length ≤ k + 1
  | 0, n, h => by rw [decL_small (by simpa using h)]; simp
  | k + 1, n, h => by
    by_cases h1 : n < 10
    · rw [decL_small h1]; simp
    · rw [decL_big h1, List.length_append, List.length_singleton]
      have := decL_length k (n / 10) (by rw [Nat.pow_succ] at h; generalize 10 ^ (k + 1) = P at *; omega)
      omega
theorem intL_length {n : Int} (h1 : -9223372036854775808 ≤ n) (h2 : n < 9223372036854775808) : (intL n).length ≤ 20 := by
  have h := decL_length 18 n.natAbs (by
    have : (10 : Nat) ^ (18 + 1) = 10000000000000000000 := by decide
    omega)
  unfold intL
  split
  · rw [List.length_cons]; omega
  · omega
theorem escB_length (b : UInt8) : (escB b).length ≤ 2 := by
  unfold escB
  split
  · simp
  · split <;> simp
theorem escL_length (s : List UInt8) : (escL s).length ≤ 2 * s.length := by
  unfold escL
  induction s with
  | nil => simp
  | cons b t ih =>
    have := escB_length b
    rw [List.flatMap_cons, List.length_append, List.length_cons]; omega
theorem showP_length {a : Lab} (h : plainL a) : (showP a).length ≤ 66 := by
  rcases h with ⟨h1, _, h3, h4⟩ | ⟨h1, _, h3⟩
  · unfold showP
    rw [if_neg (by omega)]
    have := intL_length h3 h4
    omega
  · unfold showP
    rw [if_pos h1, List.length_cons, List.length_append, List.length_singleton]
    have h5 := escL_length a.s.data.toList
    have h6 : a.s.data.toList.length = a.s.size := by rw [Array.length_toList]; rfl
    omega
theorem joinL_length : ∀ (l : List Lab), (∀ x ∈ l, plainL x) → (joinL l).length ≤ 67 * l.length
  | [], _ => by simp [joinL]
  | [a], h => by
    have := showP_length (h a (by simp))
    simp [joinL]; omega
  | a :: b :: l, h => by
    have h1 := showP_length (h a (by simp))
    have h2 := joinL_length (b :: l) (fun x hx => h x (by simp at hx ⊢; exact .inr hx))
    simp [joinL] at h2 ⊢; omega
theorem tuple_parts {a : Lab} (hk : a.k = 2) (hr : rightE a = true) : ∃ out, partsE a = some out ∧ out ≠ [] ∧ out.length ≤ 4 ∧ (∀ x ∈ out, plainL x) ∧ a = ⟨2, out.length, txt (encL out)⟩ := by
  unfold rightE at hr
  obtain ⟨out, ho⟩ := Option.isSome_iff_exists.1 hr
  have ho' := ho
  unfold partsE at ho
  rw [if_neg (by omega), if_neg (by omega)] at ho
  cases hp : parseL 4 a.s.data.toList with
  | none => rw [hp] at ho; cases ho
  | some o =>
    rw [hp] at ho
    simp only at ho
    by_cases h3 : o ≠ [] ∧ a.n = o.length
    · rw [if_pos h3] at ho
      injection ho with ho
      subst ho
      exact ⟨o, ho', h3.1, parts_le ho', parse_plain 4 _ _ hp, parts_tuple hk ho'⟩
    · rw [if_neg h3] at ho; cases ho
theorem showE_length {a : Lab} (h1 : -9223372036854775808 ≤ a.n) (h2 : a.n < 9223372036854775808) : (showE a).length ≤ 300 := by
  unfold showE
  by_cases hr : rightE a = false
  · rw [if_pos hr]; simp
  · rw [if_neg hr]
    have hr' : rightE a = true := by simpa using hr
    by_cases hk : a.k = 2
    · obtain ⟨out, ho, _, hle, hpl, _⟩ := tuple_parts hk hr'
      have hd : partsD a = out := by unfold partsD; rw [ho]; rfl
      have := joinL_length out hpl
      rw [if_pos hk, hd]
      simp; omega
    · rw [if_neg hk]
      have := showP_length (simp_plain (a := a) (by unfold simpE; rw [hr', decide_eq_true hk]; rfl) h1 h2)
      omega
theorem encL_length : ∀ (l : List Lab), (∀ x ∈ l, plainL x) → (encL l).length ≤ 34 * l.length
  | [], _ => by simp [encL]
  | a :: l, h => by
    have h1 := encP_length (h a (by simp))
    have h2 := encL_length l (fun x hx => h x (by simp [hx]))
    have e : encL (a :: l) = encP a ++ encL l := by simp [encL]
    rw [e, List.length_append, List.length_cons]; omega
theorem plain_ok {a : Lab} (h : plainL a) : okL a ∧ a.s.size ≤ 300 := by
  rcases h with ⟨h1, h2, h3, h4⟩ | ⟨h1, h2, h3⟩
  · have : a.s.size = 0 := by rw [h2]; rfl
    exact ⟨⟨by omega, by omega, h3, h4, by omega⟩, by omega⟩
  · exact ⟨⟨by omega, by omega, by omega, by omega, by omega⟩, by omega⟩
theorem right_ok {a : Lab} (hr : rightE a = true) (h1 : -9223372036854775808 ≤ a.n) (h2 : a.n < 9223372036854775808) : okL a ∧ a.s.size ≤ 300 := by
  by_cases hk : a.k = 2
  · obtain ⟨out, _, _, hle, hpl, e⟩ := tuple_parts hk hr
    have hl := encL_length out hpl
    have hs : a.s.size = (encL out).length := by rw [e]; exact txt_size _
    exact ⟨⟨by omega, by omega, h1, h2, by omega⟩, by omega⟩
  · exact plain_ok (simp_plain (a := a) (by unfold simpE; rw [hr, decide_eq_true hk]; rfl) h1 h2)
theorem read_range {s : List UInt8} {z : Lab} (h : readE s = some z) : -9223372036854775808 ≤ z.n ∧ z.n < 9223372036854775808 := by
  unfold readE at h
  split at h
  · next t =>
    cases hl : listE 4 t with
    | none => rw [hl] at h; cases h
    | some l =>
      rw [hl] at h
      dsimp only at h
      obtain ⟨_, _, h3, _⟩ := join_list 4 t l hl
      unfold tupE at h
      split at h
      · injection h with h
        rw [← h]
        exact ⟨by show -9223372036854775808 ≤ (l.length : Int); omega, by show (l.length : Int) < 9223372036854775808; omega⟩
      · cases h
  · split at h
    · next a ho =>
      split at h
      · injection h with h
        subst h
        rcases (show_one ho).2 with ⟨_, _, h1, h2⟩ | ⟨_, h1⟩
        · exact ⟨h1, h2⟩
        · rw [h1]; exact ⟨by decide, by decide⟩
      · cases h
    · cases h
theorem read_ok {s : List UInt8} {z : Lab} (h : readE s = some z) : okL z ∧ z.s.size ≤ 300 := right_ok (show_read h).1 (read_range h).1 (read_range h).2
theorem read_none : readE [] = none := rfl
end Go.Proofs.YtblmnbaejfhagaaGreatDoor
