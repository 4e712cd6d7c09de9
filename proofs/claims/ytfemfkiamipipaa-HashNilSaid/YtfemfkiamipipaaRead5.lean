/-
  LABELS AS TEXT, READ AGAIN: texts in quotes, tuples; what is read has that text, a right label's text is read as it was. Plain: nothing of a program.
-/
import Derived.Test.YtfemfkiamipipaaShow5
namespace Go.Proofs.Ytfemfkiamipipaa
open Go
set_option linter.unusedVariables false

/-! ### texts in quotes -/
def escB (b : UInt8) : List UInt8 := if b = 39 ∨ b = 92 then [92, b] else if b = 10 then [92, 110] else [b]
def escL (s : List UInt8) : List UInt8 := s.flatMap escB
/-- a text up to its closing quote, and what is left. -/
def unE : List UInt8 → Option (List UInt8 × List UInt8)
  | [] => none
  | b :: t =>
    if b = 39 then some ([], t)
    else if b = 10 then none
    else if b = 92 then match t with
      | [] => none
      | c :: r => if c = 39 ∨ c = 92 then (unE r).map fun p => (c :: p.1, p.2) else if c = 110 then (unE r).map fun p => (10 :: p.1, p.2) else none
    else (unE t).map fun p => (b :: p.1, p.2)
theorem un_quote (t : List UInt8) : unE (39 :: t) = some ([], t) := by rw [unE.eq_def]; rfl
theorem un_self {c : UInt8} (h : c = 39 ∨ c = 92) (r : List UInt8) : unE (92 :: c :: r) = (unE r).map fun p => (c :: p.1, p.2) := by
  rw [unE.eq_def]
  dsimp only
  rw [if_neg (by decide), if_neg (by decide), if_pos rfl, if_pos h]
theorem un_end (r : List UInt8) : unE (92 :: 110 :: r) = (unE r).map fun p => (10 :: p.1, p.2) := by
  rw [unE.eq_def]
  dsimp only
  rw [if_neg (by decide), if_neg (by decide), if_pos rfl, if_neg (by decide), if_pos rfl]
theorem un_plain {b : UInt8} (h1 : ¬ (b = 39 ∨ b = 92)) (h2 : b ≠ 10) (r : List UInt8) : unE (b :: r) = (unE r).map fun p => (b :: p.1, p.2) := by
  rw [unE.eq_def]
  dsimp only
  rw [if_neg (fun h => h1 (.inl h)), if_neg h2, if_neg (fun h => h1 (.inr h))]
theorem un_line (r : List UInt8) : unE (10 :: r) = none := by rw [unE.eq_def]; rfl
theorem un_bad {c : UInt8} (h1 : ¬ (c = 39 ∨ c = 92)) (h2 : c ≠ 110) (r : List UInt8) : unE (92 :: c :: r) = none := by
  rw [unE.eq_def]
  dsimp only
  rw [if_neg (by decide), if_neg (by decide), if_pos rfl, if_neg h1, if_neg h2]
theorem un_open : unE [92] = none := by rw [unE.eq_def]; rfl
theorem un_esc (s r : List UInt8) : unE (escL s ++ 39 :: r) = some (s, r) := by
  induction s with
  | nil => exact un_quote r
  | cons b t ih =>
    have e : escL (b :: t) ++ 39 :: r = escB b ++ (escL t ++ 39 :: r) := by simp [escL]
    rw [e]
    unfold escB
    by_cases h1 : b = 39 ∨ b = 92
    · rw [if_pos h1, List.cons_append, List.cons_append, List.nil_append, un_self h1, ih]; rfl
    · rw [if_neg h1]
      by_cases h2 : b = 10
      · rw [if_pos h2, List.cons_append, List.cons_append, List.nil_append, un_end, ih, h2]; rfl
      · rw [if_neg h2, List.cons_append, List.nil_append, un_plain h1 h2, ih]; rfl
theorem map_some {α β : Type} {o : Option α} {f : α → β} {y : β} (h : o.map f = some y) : ∃ x, o = some x ∧ f x = y := by
  cases o with
  | none => cases h
  | some x => exact ⟨x, rfl, by injection h⟩
theorem esc_un : ∀ (n : Nat) (l s r : List UInt8), l.length ≤ n → unE l = some (s, r) → l = escL s ++ 39 :: r
  | _, [], s, r, hn, h => by rw [unE.eq_def] at h; cases h
  | 0, _ :: _, s, r, hn, h => by simp at hn
  | n + 1, b :: t, s, r, hn, h => by
    rw [List.length_cons] at hn
    by_cases h0 : b = 39
    · subst h0
      rw [un_quote] at h
      injection h with h; injection h with h1 h2
      subst h1 h2; rfl
    · by_cases h2 : b = 10
      · subst h2; rw [un_line] at h; cases h
      · by_cases h3 : b = 92
        · subst h3
          cases t with
          | nil => rw [un_open] at h; cases h
          | cons c q =>
            rw [List.length_cons] at hn
            by_cases h4 : c = 39 ∨ c = 92
            · rw [un_self h4] at h
              obtain ⟨⟨p1, p2⟩, hp, e⟩ := map_some h
              injection e with e1 e2
              subst e1 e2
              rw [esc_un n q p1 p2 (by omega) hp]
              have : escB c = [92, c] := by unfold escB; rw [if_pos h4]
              simp [escL, this]
            · by_cases h5 : c = 110
              · subst h5
                rw [un_end] at h
                obtain ⟨⟨p1, p2⟩, hp, e⟩ := map_some h
                injection e with e1 e2
                subst e1 e2
                rw [esc_un n q p1 p2 (by omega) hp]
                have : escB 10 = [92, 110] := by decide
                simp [escL, this]
              · rw [un_bad h4 h5] at h; cases h
        · have h4 : ¬ (b = 39 ∨ b = 92) := by rintro (h | h); exact h0 h; exact h3 h
          rw [un_plain h4 h2] at h
          obtain ⟨⟨p1, p2⟩, hp, e⟩ := map_some h
          injection e with e1 e2
          subst e1 e2
          rw [esc_un n t p1 p2 (by omega) hp]
          have : escB b = [b] := by unfold escB; rw [if_neg h4, if_neg h2]
          simp [escL, this]

/-! ### one number or text -/
def showP (a : Lab) : List UInt8 := if a.k = 1 then 39 :: (escL a.s.data.toList ++ [39]) else intL a.n
/-- a number or a text at the beginning, and what is left. -/
def oneE (s : List UInt8) : Option (Lab × List UInt8) := match s with
  | 39 :: t => (unE t).map fun p => (⟨1, 0, txt p.1⟩, p.2)
  | _ => (numE s).map fun p => (⟨0, p.1, noS⟩, p.2)
theorem one_text (t : List UInt8) : oneE (39 :: t) = (unE t).map fun p => (⟨1, 0, txt p.1⟩, p.2) := rfl
theorem one_num {s : List UInt8} (h : ∀ t, s ≠ 39 :: t) : oneE s = (numE s).map fun p => (⟨0, p.1, noS⟩, p.2) := by
  unfold oneE
  split
  · next t => exact absurd rfl (h t)
  · rfl
theorem int_head (n : Int) (r t : List UInt8) (c : UInt8) (hc : isDig c = false) (h45 : c ≠ 45) : intL n ++ r ≠ c :: t := by
  unfold intL
  split
  · intro e; injection e with e; exact h45 e.symm
  · have hd := decL_digs n.natAbs
    have hne := decL_ne n.natAbs
    cases h : decL n.natAbs with
    | nil => exact absurd h hne
    | cons b l =>
      rw [h] at hd
      intro e
      injection e with e
      subst e
      rw [hd b (by simp)] at hc; cases hc
theorem one_show {a : Lab} (h : plainL a) (r : List UInt8) (hr : noDig r) : oneE (showP a ++ r) = some (a, r) := by
  obtain ⟨k, n, s⟩ := a
  rcases h with ⟨h1, h2, h3, h4⟩ | ⟨h1, h2, h3⟩
  · obtain rfl : k = 0 := h1
    obtain rfl : s = noS := h2
    have e : showP ⟨0, n, noS⟩ = intL n := by unfold showP; rw [if_neg (show ¬ (0 : Int) = 1 by decide)]
    rw [e, one_num fun t => int_head n r t 39 (by decide) (by decide), num_show n r h3 h4 hr]; rfl
  · obtain rfl : k = 1 := h1
    obtain rfl : n = 0 := h2
    have e : showP ⟨1, 0, s⟩ ++ r = 39 :: (escL s.data.toList ++ 39 :: r) := by unfold showP; rw [if_pos rfl]; simp
    rw [e, one_text, un_esc]
    show some (_, _) = _
    rw [txt_of]
theorem show_one {s r : List UInt8} {a : Lab} (h : oneE s = some (a, r)) : s = showP a ++ r ∧ (a.k = 0 ∧ a.s = noS ∧ -9223372036854775808 ≤ a.n ∧ a.n < 9223372036854775808 ∨ a.k = 1 ∧ a.n = 0) := by
  by_cases h0 : ∃ t, s = 39 :: t
  · obtain ⟨t, rfl⟩ := h0
    unfold oneE at h
    obtain ⟨⟨p1, p2⟩, hp, e⟩ := map_some h
    injection e with e1 e2
    subst e1 e2
    refine ⟨?_, .inr ⟨rfl, rfl⟩⟩
    unfold showP
    rw [if_pos rfl, esc_un _ t p1 p2 (Nat.le_refl _) hp]
    simp [txt]
  · rw [one_num fun t e => h0 ⟨t, e⟩] at h
    obtain ⟨⟨p1, p2⟩, hp, e⟩ := map_some h
    injection e with e1 e2
    subst e1 e2
    obtain ⟨h1, h2, h3⟩ := show_num hp
    refine ⟨?_, .inl ⟨rfl, rfl, h2, h3⟩⟩
    unfold showP
    rw [if_neg (show ¬ (0 : Int) = 1 by decide)]
    exact h1

/-! ### a tuple -/
def joinL : List Lab → List UInt8
  | [] => []
  | [a] => showP a
  | a :: b :: l => showP a ++ 44 :: joinL (b :: l)
def showE (a : Lab) : List UInt8 := if rightE a = false then [] else if a.k = 2 then 40 :: (joinL (partsD a) ++ [41]) else showP a
/-- at most f parts, and a closing bracket. -/
def listE : Nat → List UInt8 → Option (List Lab)
  | 0, _ => none
  | f + 1, s => match oneE s with
    | none => none
    | some (a, [41]) => some [a]
    | some (a, 44 :: t) => (listE f t).map (a :: ·)
    | some _ => none
def readE (s : List UInt8) : Option Lab := match s with
  | 40 :: t => match listE 4 t with
    | some l => tupE l
    | none => none
  | _ => match oneE s with
    | some (a, []) => if rightE a = true then some a else none
    | _ => none
theorem noDig_cons {b : UInt8} (h : isDig b = false) (t : List UInt8) : noDig (b :: t) := by intro c hc; injection hc with hc; subst hc; exact h
theorem list_join : ∀ (f : Nat) (l : List Lab), l ≠ [] → l.length ≤ f → (∀ x ∈ l, plainL x) → listE f (joinL l ++ [41]) = some l
  | _, [], h, _, _ => absurd rfl h
  | 0, _ :: _, _, h, _ => by simp at h
  | f + 1, [a], _, _, hp => by
    show listE (f + 1) (showP a ++ [41]) = _
    rw [listE, one_show (hp a (by simp)) [41] (noDig_cons (by decide) _)]; rfl
  | f + 1, a :: b :: l, _, hf, hp => by
    have e : joinL (a :: b :: l) ++ [41] = showP a ++ 44 :: (joinL (b :: l) ++ [41]) := by simp [joinL]
    rw [e, listE, one_show (hp a (by simp)) _ (noDig_cons (by decide) _)]
    simp only
    rw [list_join f (b :: l) (List.cons_ne_nil _ _) (by simp at hf ⊢; omega) (fun x hx => hp x (by simp at hx ⊢; exact .inr hx))]
    rfl
theorem join_list : ∀ (f : Nat) (s : List UInt8) (l : List Lab), listE f s = some l → s = joinL l ++ [41] ∧ l ≠ [] ∧ l.length ≤ f ∧ ∀ x ∈ l, (x.k = 0 ∧ x.s = noS ∧ -9223372036854775808 ≤ x.n ∧ x.n < 9223372036854775808 ∨ x.k = 1 ∧ x.n = 0)
  | 0, s, l, h => by simp [listE] at h
  | f + 1, s, l, h => by
    rw [listE] at h
    split at h
    · cases h
    · next a ho =>
      injection h with h
      subst h
      obtain ⟨h1, h2⟩ := show_one ho
      exact ⟨h1, List.cons_ne_nil _ _, by simp, fun x hx => by simp at hx; subst hx; exact h2⟩
    · next a t ho =>
      obtain ⟨o, hl, rfl⟩ := map_some h
      obtain ⟨h1, h2⟩ := show_one ho
      obtain ⟨h3, h4, h5, h6⟩ := join_list f t o hl
      refine ⟨?_, List.cons_ne_nil _ _, by simp; omega, fun x hx => ?_⟩
      · rw [h1, h3]
        cases o with
        | nil => exact absurd rfl h4
        | cons b q => simp [joinL]
      · simp at hx
        rcases hx with rfl | hx
        · exact h2
        · exact h6 x hx
    · cases h

/-! ### there and back -/
theorem numB_bytesB : ∀ (k u : Nat), u < 256 ^ k → numB (bytesB k u) = u
  | 0, u, h => by rw [Nat.pow_zero] at h; obtain rfl : u = 0 := by omega
                  rfl
  | k + 1, u, h => by
    unfold bytesB
    rw [numB_snoc, numB_bytesB k (u / 256) (by rw [Nat.pow_succ] at h; generalize 256 ^ k = P at *; omega)]
    have : (UInt8.ofNat (u % 256)).toNat = u % 256 := by simp
    rw [this]; omega
theorem plain_simp {a : Lab} (h : plainL a) : simpE a = true := by
  have hr : rightE a = true := by
    unfold rightE
    rw [parts_self (a := a) (by rcases h with ⟨h1, h2, _⟩ | h; exact .inl ⟨h1, h2⟩; exact .inr h)]; rfl
  unfold simpE
  rw [hr, decide_eq_true (by rcases h with ⟨h1, _⟩ | ⟨h1, _⟩ <;> omega)]; rfl
theorem parse_plain : ∀ (f : Nat) (l : List UInt8) (out : List Lab), parseL f l = some out → ∀ x ∈ out, plainL x
  | _, [], out, h => by
    have : out = [] := by cases ‹Nat› <;> (simp [parseL] at h; exact h)
    subst this; intro x hx; cases hx
  | 0, _ :: _, out, h => by simp [parseL] at h
  | f + 1, c :: t, out, h => by
    unfold parseL at h
    by_cases h0 : c = 0 ∧ 8 ≤ t.length
    · rw [if_pos h0] at h
      obtain ⟨o, hp, rfl⟩ := map_some h
      have ih := parse_plain f _ o hp
      have hb := numB_lt (t.take 8)
      have hl : (t.take 8).length = 8 := by rw [List.length_take]; omega
      have e8 : (256 : Nat) ^ 8 = 18446744073709551616 := by decide
      rw [hl, e8] at hb
      intro x hx
      rcases List.mem_cons.1 hx with rfl | hx
      · exact .inl ⟨rfl, rfl, by show -9223372036854775808 ≤ (numB (t.take 8) : Int) - 9223372036854775808; omega, by show (numB (t.take 8) : Int) - 9223372036854775808 < 9223372036854775808; omega⟩
      · exact ih x hx
    · rw [if_neg h0] at h
      cases t with
      | nil => cases h
      | cons m r =>
        simp only at h
        by_cases h1 : c = 1 ∧ m.toNat ≤ 32 ∧ m.toNat ≤ r.length
        · rw [if_pos h1] at h
          obtain ⟨o, hp, rfl⟩ := map_some h
          have ih := parse_plain f _ o hp
          intro x hx
          rcases List.mem_cons.1 hx with rfl | hx
          · exact .inr ⟨rfl, rfl, by show (txt (r.take m.toNat)).size ≤ 32; rw [txt_size, List.length_take]; omega⟩
          · exact ih x hx
        · rw [if_neg h1] at h; cases h
theorem enc_parse : ∀ (f : Nat) (l : List Lab), l.length ≤ f → (∀ x ∈ l, plainL x) → parseL f (encL l) = some l
  | _, [], _, _ => by cases ‹Nat› <;> rfl
  | 0, _ :: _, h, _ => by simp at h
  | f + 1, ⟨k, n, s⟩ :: l, h, hp => by
    have ih := enc_parse f l (by simp at h; omega) (fun x hx => hp x (by simp [hx]))
    have e : encL (⟨k, n, s⟩ :: l) = encP ⟨k, n, s⟩ ++ encL l := by simp [encL]
    rw [e]
    rcases hp ⟨k, n, s⟩ (by simp) with ⟨h1, h2, h3, h4⟩ | ⟨h1, h2, h3⟩
    · obtain rfl : k = 0 := h1
      obtain rfl : s = noS := h2
      dsimp only at h3 h4
      have hl := bytesB_length 8 (n + 9223372036854775808).toNat
      have e8 : (256 : Nat) ^ 8 = 18446744073709551616 := by decide
      have hn := numB_bytesB 8 (n + 9223372036854775808).toNat (by omega)
      rw [enc_int, List.cons_append]
      generalize bytesB 8 (n + 9223372036854775808).toNat = b at *
      unfold parseL
      rw [if_pos ⟨rfl, by rw [List.length_append]; omega⟩, List.take_left' hl, List.drop_left' hl, ih, hn]
      show some (_ :: l) = _
      have : (((n + 9223372036854775808).toNat : Nat) : Int) - 9223372036854775808 = n := by omega
      rw [this]
      rfl
    · obtain rfl : k = 1 := h1
      obtain rfl : n = 0 := h2
      dsimp only at h3
      have hm : (UInt8.ofNat s.size).toNat = s.size := by simp; omega
      have hz : s.data.toList.length = s.size := by rw [Array.length_toList]; rfl
      rw [enc_text, List.cons_append, List.cons_append]
      unfold parseL
      rw [if_neg (by rintro ⟨h, _⟩; exact absurd h (by decide))]
      dsimp only
      rw [if_pos ⟨rfl, by omega, by rw [List.length_append]; omega⟩, hm, List.take_left' hz, List.drop_left' hz, ih, txt_of]
      rfl
theorem tup_right {l : List Lab} (h0 : l ≠ []) (h4 : l.length ≤ 4) (hp : ∀ x ∈ l, plainL x) : partsE ⟨2, l.length, txt (encL l)⟩ = some l := by
  unfold partsE
  rw [if_neg (by rintro (⟨h, _⟩ | ⟨h, _⟩); exact absurd h (show ¬ (2 : Int) = 0 by decide); exact absurd h (show ¬ (2 : Int) = 1 by decide)), if_neg (by simp)]
  rw [show (txt (encL l)).data.toList = encL l from txt_data _, enc_parse 4 l h4 hp]
  dsimp only
  rw [if_pos ⟨h0, rfl⟩]
/-- a right label's text is read as it was. -/
theorem read_show {a : Lab} (hr : rightE a = true) (h1 : -9223372036854775808 ≤ a.n) (h2 : a.n < 9223372036854775808) : readE (showE a) = some a := by
  have hr' := hr
  unfold showE
  rw [hr, if_neg (by simp)]
  by_cases hk : a.k = 2
  · rw [if_pos hk]
    unfold rightE at hr
    obtain ⟨out, ho⟩ := Option.isSome_iff_exists.1 hr
    have hd : partsD a = out := by unfold partsD; rw [ho]; rfl
    have ha := parts_tuple hk ho
    have hle := parts_le ho
    have hpl : out ≠ [] ∧ ∀ x ∈ out, plainL x := by
      unfold partsE at ho
      rw [if_neg (by omega), if_neg (by omega)] at ho
      cases hp : parseL 4 a.s.data.toList with
      | none => rw [hp] at ho; cases ho
      | some o =>
        rw [hp] at ho
        simp only at ho
        by_cases h3 : o ≠ [] ∧ a.n = o.length
        · rw [if_pos h3] at ho
          injection ho with ho
          subst ho
          exact ⟨h3.1, parse_plain 4 _ _ hp⟩
        · rw [if_neg h3] at ho; cases ho
    rw [hd]
    show (match listE 4 (joinL out ++ [41]) with | some l => tupE l | none => none) = _
    rw [list_join 4 out hpl.1 hle hpl.2]
    dsimp only
    have h0 : 1 ≤ out.length := by
      cases out with
      | nil => exact absurd rfl hpl.1
      | cons _ _ => simp
    rw [tup_yes ⟨h0, hle⟩ (fun x hx => plain_simp (hpl.2 _ (by rw [List.getD_eq_getElem?_getD, List.getElem?_eq_getElem hx]; exact List.getElem_mem hx))), ← ha]
  · rw [if_neg hk]
    have hpl := simp_plain (a := a) (by unfold simpE; rw [hr', decide_eq_true hk]; rfl) h1 h2
    have ho := one_show hpl [] (by intro b hb; cases hb)
    rw [List.append_nil] at ho
    have h40 : ∀ t, showP a ≠ 40 :: t := by
      intro t
      unfold showP
      by_cases hk1 : a.k = 1
      · rw [if_pos hk1]; intro e; injection e with e; exact absurd e (by decide)
      · rw [if_neg hk1]
        have := int_head a.n [] t 40 (by decide) (by decide)
        rw [List.append_nil] at this
        exact this
    unfold readE
    split
    · next t e => exact absurd e (h40 t)
    · rw [ho]
      dsimp only
      rw [if_pos hr']
/-- what is read has that text. -/
theorem show_read {s : List UInt8} {z : Lab} (h : readE s = some z) : rightE z = true ∧ showE z = s := by
  unfold readE at h
  split at h
  · next t =>
    cases hl : listE 4 t with
    | none => rw [hl] at h; cases h
    | some l =>
      rw [hl] at h
      dsimp only at h
      obtain ⟨h1, h2, h3, h4⟩ := join_list 4 t l hl
      unfold tupE at h
      by_cases hc : (decide (1 ≤ l.length ∧ l.length ≤ 4) && l.all simpE) = true
      · rw [if_pos hc] at h
        injection h with h
        rw [Bool.and_eq_true, List.all_eq_true] at hc
        have hpl : ∀ x ∈ l, plainL x := fun x hx => by
          rcases h4 x hx with h5 | ⟨h5, h6⟩
          · exact .inl h5
          · exact simp_plain (hc.2 x hx) (by omega) (by omega)
        have hp := tup_right h2 h3 hpl
        rw [h] at hp
        have hr : rightE z = true := by unfold rightE; rw [hp]; rfl
        refine ⟨hr, ?_⟩
        have hk : z.k = 2 := by rw [← h]
        have hd : partsD z = l := by unfold partsD; rw [hp]; rfl
        unfold showE
        rw [hr, if_neg (by simp), if_pos hk, hd, ← h1]
      · rw [if_neg hc] at h; cases h
  · next hs =>
    split at h
    · next a ho =>
      by_cases hr : rightE a = true
      · rw [if_pos hr] at h
        injection h with h
        subst h
        obtain ⟨h1, h2⟩ := show_one ho
        refine ⟨hr, ?_⟩
        unfold showE
        rw [hr, if_neg (by simp), if_neg (by rcases h2 with ⟨h2, _⟩ | ⟨h2, _⟩ <;> omega), h1, List.append_nil]
      · rw [if_neg hr] at h; cases h
    · cases h
theorem show_wrong {a : Lab} (h : rightE a = false) : showE a = [] := by unfold showE; rw [if_pos h]
end Go.Proofs.Ytfemfkiamipipaa
