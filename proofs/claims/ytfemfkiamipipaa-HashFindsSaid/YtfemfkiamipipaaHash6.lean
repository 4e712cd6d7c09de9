/-
  Layer 6, plain: a label's hash; how many slots; labels laid into slots, round by round; what a table tells.
-/
import Derived.Test.YtfemfkiamipipaaLabM
namespace Go.Proofs.Ytfemfkiamipipaa
open Go.ChangeShapes Go.WideShapes Go.ChangeAt Go.RowKit
set_option linter.unusedVariables false

/-! ### how many slots -/
def roomK : Nat → Nat
  | 0 => 0
  | n + 1 => if 2 * (8 * 2 ^ roomK n) ≤ 3 * (n + 1) then roomK n + 1 else roomK n
def roomE (n : Nat) : Nat := 8 * 2 ^ roomK n
theorem room_step (n : Nat) : roomE (n + 1) = if 2 * roomE n ≤ 3 * (n + 1) then 2 * roomE n else roomE n := by
  unfold roomE
  rw [roomK]
  split
  · rw [Nat.pow_succ]; omega
  · rfl
theorem room_zero : roomE 0 = 8 := rfl
theorem room_least (n : Nat) : 8 ≤ roomE n := by
  unfold roomE
  have := Nat.two_pow_pos (roomK n)
  omega
theorem room_big : ∀ n, 3 * n < 2 * roomE n
  | 0 => by rw [room_zero]; omega
  | n + 1 => by
    have ih := room_big n
    have h8 := room_least n
    rw [room_step]
    split <;> omega
theorem room_more (n : Nat) : n < roomE n := by have := room_big n; have := room_least n; omega
theorem room_small : ∀ n, roomE n ≤ 8 + 3 * n
  | 0 => by rw [room_zero]; omega
  | n + 1 => by
    have ih := room_small n
    rw [room_step]
    split <;> omega
theorem room_less : ∀ n j, j < roomK n → 2 * (8 * 2 ^ j) ≤ 3 * n
  | 0, j, h => by rw [roomK] at h; omega
  | n + 1, j, h => by
    rw [roomK] at h
    split at h
    · rename_i h1
      by_cases hj : j < roomK n
      · have := room_less n j hj; omega
      · obtain rfl : j = roomK n := by omega
        omega
    · have := room_less n j h; omega
/-- doubling from 8 on ends there. -/
theorem room_go {n j : Nat} (hj : j ≤ roomK n) (h : 2 * (8 * 2 ^ j) ≤ 3 * n) : j + 1 ≤ roomK n := by
  by_cases e : j = roomK n
  · subst e
    have := room_big n
    unfold roomE at this
    omega
  · omega
theorem room_stop {n j : Nat} (hj : j ≤ roomK n) (h : ¬ 2 * (8 * 2 ^ j) ≤ 3 * n) : 8 * 2 ^ j = roomE n := by
  by_cases e : j = roomK n
  · subst e; rfl
  · exact absurd (room_less n j (by omega)) h

/-! ### slots: 0 where one is free, a number and one where it is taken -/
def cnt (T : Nat → Nat) : Nat → Nat
  | 0 => 0
  | r + 1 => cnt T r + (if T r = 0 then 0 else 1)
theorem cnt_put (T : Nat → Nat) (k v : Nat) : ∀ r, cnt (fun x => if x = k then v else T x) r ≤ cnt T r + (if k < r then 1 else 0)
  | 0 => by simp [cnt]
  | r + 1 => by
    have ih := cnt_put T k v r
    simp only [cnt]
    by_cases e : r = k
    · subst e
      rw [if_neg (by omega)] at ih
      simp only [↓reduceIte, Nat.lt_succ_self]
      split <;> split <;> omega
    · simp only [if_neg e]
      by_cases h1 : k < r
      · rw [if_pos h1] at ih
        rw [if_pos (show k < r + 1 by omega)]
        split <;> omega
      · rw [if_neg h1] at ih
        rw [if_neg (show ¬ k < r + 1 by omega)]
        split <;> omega
theorem cnt_full (T : Nat → Nat) : ∀ r, (∀ x, x < r → T x ≠ 0) → cnt T r = r
  | 0, _ => rfl
  | r + 1, h => by
    rw [cnt, cnt_full T r (fun x hx => h x (by omega)), if_neg (h r (by omega))]
/-- the first free slot from that on which a hash names: so many are looked at ahead of it. -/
def freeJ (R : Nat) (T : Nat → Nat) (h : Nat) : Nat := ((List.range R).find? (fun j => decide (T ((h + j) % R) = 0))).getD R
theorem freeJ_is {R h : Nat} {T : Nat → Nat} {j : Nat} (hj : j < R) (h0 : T ((h + j) % R) = 0) (hb : ∀ i, i < j → T ((h + i) % R) ≠ 0) : freeJ R T h = j := by
  unfold freeJ
  have : (List.range R).find? (fun j => decide (T ((h + j) % R) = 0)) = some j := by
    rw [List.find?_range_eq_some]
    exact ⟨by simpa using h0, by simpa using hj, fun i hi => by simpa using hb i hi⟩
  rw [this]; rfl
theorem first_free {R h : Nat} {T : Nat → Nat} : ∀ n, (∃ j, j < n ∧ T ((h + j) % R) = 0) → ∃ j, j < n ∧ T ((h + j) % R) = 0 ∧ ∀ i, i < j → T ((h + i) % R) ≠ 0
  | 0, ⟨j, hj, _⟩ => by omega
  | n + 1, ⟨j, hj, h0⟩ => by
    by_cases hx : ∃ i, i < n ∧ T ((h + i) % R) = 0
    · obtain ⟨i, h1, h2, h3⟩ := first_free n hx
      exact ⟨i, by omega, h2, h3⟩
    · obtain rfl : j = n := by
        by_cases e : j = n
        · exact e
        · exact absurd ⟨j, by omega, h0⟩ hx
      exact ⟨j, by omega, h0, fun i hi e => hx ⟨i, hi, e⟩⟩
theorem come_to {R h x : Nat} (hx : x < R) : ∃ j, j < R ∧ (h + j) % R = x := by
  refine ⟨(x + R - h % R) % R, Nat.mod_lt _ (by omega), ?_⟩
  have hr : h % R < R := Nat.mod_lt _ (by omega)
  rw [Nat.add_mod_mod, Nat.add_mod, ← Nat.add_mod_mod]
  have e : (h % R + (x + R - h % R) % R) % R = (h % R + (x + R - h % R)) % R := by rw [Nat.add_mod_mod]
  rw [Nat.add_mod_mod, Nat.mod_add_mod, Nat.add_mod, Nat.add_mod] at *
  have e2 : (h % R + (x + R - h % R)) % R = x := by
    rw [show h % R + (x + R - h % R) = x + R by omega, Nat.add_mod_right, Nat.mod_eq_of_lt hx]
  simp only [Nat.mod_mod, Nat.add_mod_mod, Nat.mod_add_mod] at *
  first | exact e2 | omega
theorem has_free {R h : Nat} {T : Nat → Nat} (hc : cnt T R < R) : ∃ j, j < R ∧ T ((h + j) % R) = 0 ∧ ∀ i, i < j → T ((h + i) % R) ≠ 0 := by
  refine first_free R ?_
  by_cases hx : ∃ x, x < R ∧ T x = 0
  · obtain ⟨x, h1, h2⟩ := hx
    obtain ⟨j, h3, h4⟩ := come_to (h := h) h1
    exact ⟨j, h3, by rw [h4]; exact h2⟩
  · have := cnt_full T R (fun x h1 h2 => hx ⟨x, h1, h2⟩)
    omega
/-- the slots when the first i of these hashes have come. -/
def tabE (R : Nat) (hs : Nat → Nat) : Nat → Nat → Nat
  | 0 => fun _ => 0
  | i + 1 => fun x => if x = (hs i + freeJ R (tabE R hs i) (hs i)) % R then i + 1 else tabE R hs i x
def jE (R : Nat) (hs : Nat → Nat) (i : Nat) : Nat := freeJ R (tabE R hs i) (hs i)
def slotE (R : Nat) (hs : Nat → Nat) (i : Nat) : Nat := (hs i + jE R hs i) % R
def longE (R : Nat) (hs : Nat → Nat) : Nat → Nat
  | 0 => 0
  | i + 1 => max (longE R hs i) (jE R hs i + 1)
section
variable {R : Nat} {hs : Nat → Nat}
theorem tab_step (i x : Nat) : tabE R hs (i + 1) x = if x = slotE R hs i then i + 1 else tabE R hs i x := rfl
theorem tab_cnt : ∀ i, cnt (tabE R hs i) R ≤ i
  | 0 => by
    have : ∀ r, cnt (tabE R hs 0) r = 0 := by
      intro r
      induction r with
      | zero => rfl
      | succ r ih => rw [cnt, ih]; rfl
    rw [this]; omega
  | i + 1 => by
    have := cnt_put (tabE R hs i) (slotE R hs i) (i + 1) R
    have ih := tab_cnt i
    have e : tabE R hs (i + 1) = fun x => if x = slotE R hs i then i + 1 else tabE R hs i x := rfl
    rw [e]
    split at this <;> omega
theorem tab_free {i : Nat} (hi : i < R) (h : Nat) : ∃ j, j < R ∧ tabE R hs i ((h + j) % R) = 0 ∧ ∀ k, k < j → tabE R hs i ((h + k) % R) ≠ 0 :=
  has_free (by have := tab_cnt (R := R) (hs := hs) i; omega)
theorem jE_spec {i : Nat} (hi : i < R) : jE R hs i < R ∧ tabE R hs i (slotE R hs i) = 0 ∧ ∀ k, k < jE R hs i → tabE R hs i ((hs i + k) % R) ≠ 0 := by
  obtain ⟨j, h1, h2, h3⟩ := tab_free (hs := hs) hi (hs i)
  have e : jE R hs i = j := freeJ_is h1 h2 h3
  unfold slotE
  rw [e]
  exact ⟨h1, h2, h3⟩
theorem slot_lt {i : Nat} (hi : i < R) : slotE R hs i < R := Nat.mod_lt _ (by omega)
/-- what is taken stays so. -/
theorem tab_stays {i : Nat} : ∀ n, i ≤ n → n ≤ R → ∀ x, tabE R hs i x ≠ 0 → tabE R hs n x = tabE R hs i x
  | 0, h, _, x, _ => by obtain rfl : i = 0 := by omega
                        rfl
  | n + 1, h, hn, x, hx => by
    by_cases e : i = n + 1
    · subst e; rfl
    · have ih := tab_stays n (by omega) (by omega) x hx
      rw [tab_step, if_neg, ih]
      intro e2
      have := (jE_spec (R := R) (hs := hs) (i := n) (by omega)).2.1
      rw [← e2, ih] at this
      exact hx this
theorem tab_at {i n : Nat} (hi : i < n) (hn : n ≤ R) : tabE R hs n (slotE R hs i) = i + 1 := by
  have h1 : tabE R hs (i + 1) (slotE R hs i) = i + 1 := by rw [tab_step, if_pos rfl]
  rw [tab_stays n hi hn _ (by rw [h1]; omega), h1]
/-- whoever has a slot stands in it. -/
theorem tab_who : ∀ (n x : Nat), tabE R hs n x ≠ 0 → ∃ i, i < n ∧ tabE R hs n x = i + 1 ∧ x = slotE R hs i
  | 0, x, h => absurd rfl h
  | n + 1, x, h => by
    rw [tab_step] at h ⊢
    by_cases e : x = slotE R hs n
    · rw [if_pos e]; exact ⟨n, by omega, rfl, e⟩
    · rw [if_neg e] at h ⊢
      obtain ⟨i, h1, h2, h3⟩ := tab_who n x h
      exact ⟨i, by omega, h2, h3⟩
theorem tab_ahead {i n j : Nat} (hi : i < n) (hn : n ≤ R) (hj : j < jE R hs i) : ∃ k, k < i ∧ tabE R hs n ((hs i + j) % R) = k + 1 := by
  have h1 := (jE_spec (hs := hs) (i := i) (by omega)).2.2 j hj
  obtain ⟨k, h2, h3, _⟩ := tab_who i _ h1
  exact ⟨k, h2, by rw [tab_stays n (by omega) hn _ h1, h3]⟩
/-- what is laid is what comes, not what comes later. -/
theorem tab_same {hs' : Nat → Nat} : ∀ n, (∀ i, i < n → hs' i = hs i) → tabE R hs' n = tabE R hs n
  | 0, _ => rfl
  | n + 1, h => by
    have ih := tab_same n (fun i hi => h i (by omega))
    funext x
    rw [tab_step, tab_step]
    unfold slotE jE
    rw [ih, h n (by omega)]
theorem j_same {hs' : Nat → Nat} {i : Nat} (h : ∀ k, k ≤ i → hs' k = hs k) : jE R hs' i = jE R hs i := by
  unfold jE
  rw [tab_same i (fun k hk => h k (by omega)), h i (by omega)]
theorem long_same {hs' : Nat → Nat} : ∀ n, (∀ i, i < n → hs' i = hs i) → longE R hs' n = longE R hs n
  | 0, _ => rfl
  | n + 1, h => by
    rw [longE, longE, long_same n (fun i hi => h i (by omega)), j_same (fun k hk => h k (by omega))]
theorem long_le : ∀ n, n ≤ R → longE R hs n ≤ R
  | 0, _ => by simp [longE]
  | n + 1, h => by
    have := (jE_spec (R := R) (hs := hs) (i := n) (by omega)).1
    have := long_le n (by omega)
    rw [longE]; omega
end

/-! ### where a label stands -/
def numOf (l : List Lab) (a : Lab) : Option Nat := l.findIdx? (fun x => decide (x = a))
theorem num_none {l : List Lab} {a : Lab} (h : ∀ i, i < l.length → l.getD i noLab ≠ a) : numOf l a = none := by
  unfold numOf
  rw [List.findIdx?_eq_none_iff]
  intro x hx
  obtain ⟨i, hi, rfl⟩ := List.getElem_of_mem hx
  have := h i hi
  rw [List.getD_eq_getElem?_getD, List.getElem?_eq_getElem hi] at this
  simpa using this
theorem num_some {l : List Lab} {a : Lab} {i : Nat} (hi : i < l.length) (h : l.getD i noLab = a) (hb : ∀ k, k < i → l.getD k noLab ≠ a) : numOf l a = some i := by
  unfold numOf
  rw [List.findIdx?_eq_some_iff_getElem]
  refine ⟨hi, ?_, fun k hk => ?_⟩
  · rw [List.getD_eq_getElem?_getD, List.getElem?_eq_getElem hi] at h
    simpa using h
  · have := hb k hk
    rw [List.getD_eq_getElem?_getD, List.getElem?_eq_getElem (by omega)] at this
    simpa using this
theorem num_is {l : List Lab} {a : Lab} {i : Nat} (h : numOf l a = some i) : i < l.length ∧ l.getD i noLab = a ∧ ∀ k, k < i → l.getD k noLab ≠ a := by
  unfold numOf at h
  rw [List.findIdx?_eq_some_iff_getElem] at h
  obtain ⟨h1, h2, h3⟩ := h
  refine ⟨h1, ?_, fun k hk => ?_⟩
  · rw [List.getD_eq_getElem?_getD, List.getElem?_eq_getElem h1]; simpa using h2
  · have := h3 k hk
    rw [List.getD_eq_getElem?_getD, List.getElem?_eq_getElem (by omega)]; simpa using this
theorem num_not {l : List Lab} {a : Lab} (h : numOf l a = none) : ∀ i, i < l.length → l.getD i noLab ≠ a := by
  unfold numOf at h
  rw [List.findIdx?_eq_none_iff] at h
  intro i hi
  have := h l[i] (List.getElem_mem hi)
  rw [List.getD_eq_getElem?_getD, List.getElem?_eq_getElem hi]
  simpa using this
/-- no label twice. -/
def Apart (l : List Lab) : Prop := ∀ i j, i < l.length → j < l.length → l.getD i noLab = l.getD j noLab → i = j
theorem apart_nil : Apart [] := fun i j h => absurd h (by simp)
theorem getD_snoc (l : List Lab) (a : Lab) (i : Nat) : (l ++ [a]).getD i noLab = if i < l.length then l.getD i noLab else if i = l.length then a else noLab := by
  rw [List.getD_eq_getElem?_getD, List.getD_eq_getElem?_getD]
  by_cases h : i < l.length
  · rw [if_pos h, List.getElem?_append_left h]
  · rw [if_neg h, List.getElem?_append_right (by omega)]
    by_cases e : i = l.length
    · rw [if_pos e, e, Nat.sub_self]; rfl
    · rw [if_neg e, List.getElem?_eq_none (by simp; omega)]; rfl
theorem apart_snoc {l : List Lab} {a : Lab} (h : Apart l) (hn : numOf l a = none) : Apart (l ++ [a]) := by
  intro i j hi hj e
  have hno := num_not hn
  rw [getD_snoc, getD_snoc] at e
  simp only [List.length_append, List.length_singleton] at hi hj
  by_cases h1 : i < l.length <;> by_cases h2 : j < l.length
  · rw [if_pos h1, if_pos h2] at e; exact h i j h1 h2 e
  · rw [if_pos h1, if_neg h2, if_pos (by omega)] at e; exact absurd e (hno i h1)
  · rw [if_neg h1, if_pos h2, if_pos (by omega)] at e; exact absurd e.symm (hno j h2)
  · omega
theorem num_apart {l : List Lab} {i : Nat} (h : Apart l) (hi : i < l.length) : numOf l (l.getD i noLab) = some i :=
  num_some hi rfl fun k hk e => by have := h k i (by omega) hi e; omega
theorem num_snoc {l : List Lab} {a b : Lab} : numOf (l ++ [a]) b = match numOf l b with
    | some i => some i
    | none => if a = b then some l.length else none := by
  unfold numOf
  rw [List.findIdx?_append]
  cases l.findIdx? (fun x => decide (x = b)) with
  | some i => rfl
  | none => by_cases h : a = b <;> simp [List.findIdx?, List.findIdx?.go, h]
/-- one more label: what becomes of them, its number, the error. -/
def addE (l : List Lab) (a : Lab) : List Lab × Nat × Nat :=
  if rightE a = false then (l, 0, 9) else if (numOf l a).isSome then (l, 0, 6) else if 4096 ≤ l.length then (l, 0, 7) else (l ++ [a], l.length, 0)
/-- labels one by one: the table's, or an error. -/
def newE : List Lab → List Lab → List Lab × Nat
  | acc, [] => (acc, 0)
  | acc, a :: t => if (addE acc a).2.2 = 0 then newE (addE acc a).1 t else ([], (addE acc a).2.2)
/-- what a table has: each once, no more than there may be. -/
def Good (l : List Lab) : Prop := Apart l ∧ l.length ≤ 4096
theorem good_nil : Good [] := ⟨apart_nil, by simp⟩
theorem add_good {l : List Lab} {a : Lab} (h : Good l) : Good (addE l a).1 := by
  unfold addE
  split
  · exact h
  · split
    · exact h
    · rename_i h1
      split
      · exact h
      · rename_i h2
        refine ⟨apart_snoc h.1 ?_, by simp; omega⟩
        cases hn : numOf l a with
        | none => rfl
        | some i => rw [hn] at h1; simp at h1
theorem add_right {l : List Lab} {a : Lab} (h : rightE a = true) : addE l a = if (numOf l a).isSome then (l, 0, 6) else if 4096 ≤ l.length then (l, 0, 7) else (l ++ [a], l.length, 0) := by
  unfold addE; rw [if_neg (by simp [h])]

/-! ### the walk along the slots finds -/
section
variable {R : Nat} {hs : Nat → Nat} {l : List Lab} {hf : Lab → Nat}
/-- a label that stands nowhere ahead of a free slot is not there. -/
theorem find_no (hl : l.length ≤ R) (hh : ∀ i, i < l.length → hs i = hf (l.getD i noLab)) {a : Lab} {x : Nat}
    (hx : tabE R hs l.length ((hf a + x) % R) = 0) (hb : ∀ j, j < x → ∃ i, tabE R hs l.length ((hf a + j) % R) = i + 1 ∧ l.getD i noLab ≠ a) : numOf l a = none := by
  refine num_none fun i hi e => ?_
  have h1 : hs i = hf a := by rw [hh i hi, e]
  have hat := tab_at (hs := hs) hi hl
  unfold slotE at hat
  rw [h1] at hat
  by_cases c : jE R hs i < x
  · obtain ⟨k, h2, h3⟩ := hb _ c
    rw [hat] at h2
    obtain rfl : i = k := by omega
    exact h3 e
  · by_cases c2 : jE R hs i = x
    · rw [c2, hx] at hat; omega
    · obtain ⟨k, _, h2⟩ := tab_ahead (hs := hs) hi hl (j := x) (by omega)
      rw [h1, hx] at h2; omega
theorem find_yes (ha : Apart l) {a : Lab} {i : Nat} (hi : i < l.length) (e : l.getD i noLab = a) : numOf l a = some i := by
  subst e; exact num_apart ha hi
/-- every slot that is taken is a label's. -/
theorem slot_who {x v : Nat} (h : tabE R hs l.length x = v) (hv : v ≠ 0) : ∃ i, i < l.length ∧ v = i + 1 := by
  obtain ⟨i, h1, h2, _⟩ := tab_who l.length x (by rw [h]; exact hv)
  exact ⟨i, h1, by rw [← h]; exact h2⟩
/-- a free slot is come to. -/
theorem slot_free (hl : l.length < R) (h : Nat) : ∃ j, j < R ∧ tabE R hs l.length ((h + j) % R) = 0 := by
  obtain ⟨j, h1, h2, _⟩ := tab_free (hs := hs) hl h
  exact ⟨j, h1, h2⟩
end
end Go.Proofs.Ytfemfkiamipipaa
