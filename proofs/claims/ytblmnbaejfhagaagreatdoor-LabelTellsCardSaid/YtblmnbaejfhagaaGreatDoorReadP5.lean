/-
  Layer 5: how the program reads labels, plain: the same labels as the document's.
-/
import Derived.Test.YtblmnbaejfhagaaGreatDoorShowP5
namespace Go.Proofs.YtblmnbaejfhagaaGreatDoor
open Go
set_option linter.unusedVariables false

/-! ### numbers -/
def foldN (acc : Nat) (l : List UInt8) : Nat := l.foldl (fun u b => u * 10 + (b.toNat - 48)) acc
theorem foldN_le : ∀ (l : List UInt8) (acc : Nat), acc ≤ foldN acc l
  | [], acc => Nat.le_refl _
  | c :: r, acc => by
    have := foldN_le r (acc * 10 + (c.toNat - 48))
    show acc ≤ foldN (acc * 10 + (c.toNat - 48)) r
    omega
theorem parseM_digs : ∀ (l : List UInt8) (M acc : Nat), (∀ b ∈ l, isDig b = true) → foldN acc l ≤ M → M < 18446744073709551616 → Lib.parseUintM M acc l = .ok (foldN acc l)
  | [], M, acc, _, _, _ => rfl
  | c :: r, M, acc, hd, h, hM => by
    have hc := hd c (by simp)
    unfold isDig at hc
    rw [decide_eq_true_eq] at hc
    have hl := foldN_le r (acc * 10 + (c.toNat - 48))
    have h' : foldN (acc * 10 + (c.toNat - 48)) r ≤ M := h
    rw [Lib.parseUintM, if_pos hc, if_neg (by omega), if_neg (by omega), parseM_digs r M _ (fun b hb => hd b (by simp [hb])) h' hM]
    rfl
theorem parseD_int {v : Int} (h1 : -9223372036854775808 ≤ v) (h2 : v < 9223372036854775808) : parseD (intL v) = some v := by
  have hd := decL_digs v.natAbs
  have hne := decL_ne v.natAbs
  have hnm : foldN 0 (decL v.natAbs) = v.natAbs := decL_num v.natAbs
  have hu : Lib.parseUintB 64 (decL v.natAbs) = .ok v.natAbs := by
    unfold Lib.parseUintB
    have e64 : (2 : Nat) ^ 64 - 1 = 18446744073709551615 := by decide
    rw [if_neg hne, e64, parseM_digs _ _ _ hd (by rw [hnm]; omega) (by omega), hnm]
  have e63 : (2 : Nat) ^ (64 - 1) = 9223372036854775808 := by decide
  unfold parseD intL
  by_cases h : v < 0
  · rw [if_pos h]
    have hp : Lib.parseIntB 64 (45 :: decL v.natAbs) = .ok v := by
      unfold Lib.parseIntB
      have e45 : (45 : UInt8).toNat = 45 := rfl
      simp only [e45, or_true, if_true, hu, e63]
      rw [if_neg (by simp), if_neg (by omega)]
      congr 1; omega
    rw [hp]
  · rw [if_neg h]
    have hp : Lib.parseIntB 64 (decL v.natAbs) = .ok v := by
      cases hc : decL v.natAbs with
      | nil => exact absurd hc hne
      | cons c r =>
        rw [hc] at hd hu
        have hb := hd c (by simp)
        unfold isDig at hb
        rw [decide_eq_true_eq] at hb
        have hn43 : ¬ (c.toNat = 43 ∨ c.toNat = 45) := by omega
        have hn45 : ¬ c.toNat = 45 := by omega
        unfold Lib.parseIntB
        simp only [hn43, if_false]
        rw [hu]
        simp only [hn45, e63]
        rw [if_neg (by simp; omega), if_neg (by simp)]
        simp
        omega
    rw [hp]
theorem parseD_range {l : List UInt8} {v : Int} (h : parseD l = some v) : -9223372036854775808 ≤ v ∧ v < 9223372036854775808 := by
  have e63 : (2 : Nat) ^ (64 - 1) = 9223372036854775808 := by decide
  unfold parseD at h
  split at h
  · next u hu =>
    injection h with h
    subst h
    unfold Lib.parseIntB at hu
    split at hu
    · cases hu
    · simp only at hu
      split at hu
      · cases hu
      · cases hu
      · split at hu
        · cases hu
        · split at hu
          · cases hu
          · next h1 h2 =>
            rw [e63] at h1 h2
            injection hu with hu
            rw [← hu]
            split
            · next hn => have := fun h => h2 ⟨hn, h⟩; omega
            · next hn => have := fun h => h1 ⟨hn, h⟩; omega
  · cases h
/-- the number that the program reads at the beginning. -/
def intP (s : List UInt8) : Option (Lab × List UInt8) := match parseD (s.takeWhile isNum) with
  | some v => if intL v = s.takeWhile isNum then some (⟨0, v, noS⟩, s.dropWhile isNum) else none
  | none => none
theorem num_dig {b : UInt8} (h : isNum b = false) : isDig b = false ∧ b ≠ 45 := by
  have hall : ∀ n : Fin 256, isNum (UInt8.ofNat n.val) = false → isDig (UInt8.ofNat n.val) = false ∧ UInt8.ofNat n.val ≠ 45 := by decide +kernel
  have := hall ⟨b.toNat, b.toNat_lt⟩
  simp only [UInt8.ofNat_toNat] at this
  exact this h
theorem dig_num {b : UInt8} (h : isDig b = true) : isNum b = true := by
  cases hn : isNum b
  · rw [(num_dig hn).1] at h; cases h
  · rfl
theorem not_num {b : UInt8} (h : isDig b = false) (h2 : b ≠ 45) : isNum b = false := by
  have hall : ∀ n : Fin 256, isDig (UInt8.ofNat n.val) = false → UInt8.ofNat n.val ≠ 45 → isNum (UInt8.ofNat n.val) = false := by decide +kernel
  have := hall ⟨b.toNat, b.toNat_lt⟩
  simp only [UInt8.ofNat_toNat] at this
  exact this h h2
theorem intL_nums (v : Int) : ∀ b ∈ intL v, isNum b = true := by
  intro b hb
  unfold intL at hb
  split at hb
  · rcases List.mem_cons.1 hb with rfl | hb
    · rfl
    · exact dig_num (decL_digs _ b hb)
  · exact dig_num (decL_digs _ b hb)
theorem take_nums {d r : List UInt8} (hd : ∀ b ∈ d, isNum b = true) (hr : ∀ b, r.head? = some b → isNum b = false) : (d ++ r).takeWhile isNum = d ∧ (d ++ r).dropWhile isNum = r := by
  induction d with
  | nil =>
    cases r with
    | nil => exact ⟨rfl, rfl⟩
    | cons b t =>
      have := hr b rfl
      simp [this]
  | cons b t ih =>
    have hb := hd b (by simp)
    have := ih (fun c hc => hd c (by simp [hc]))
    simp [hb, this]
theorem drop_head {p : UInt8 → Bool} : ∀ (l : List UInt8) (b : UInt8), (l.dropWhile p).head? = some b → p b = false
  | [], b, h => by cases h
  | c :: t, b, h => by
    rw [List.dropWhile_cons] at h
    split at h
    · exact drop_head t b h
    · next hp => injection h with h; subst h; simpa using hp
theorem num_rest {s r : List UInt8} {v : Int} (h : numE s = some (v, r)) : noDig r := by
  unfold numE at h
  dsimp only at h
  split at h
  · injection h with h
    injection h with h1 h2
    rw [← h2]
    exact fun b hb => drop_head _ b hb
  · cases h
theorem int_num (s : List UInt8) : intP s = match numE s with | some (v, r) => if r.head? = some 45 then none else some (⟨0, v, noS⟩, r) | none => none := by
  cases hp : intP s with
  | some p =>
    unfold intP at hp
    split at hp
    · next v hv =>
      split at hp
      · next hi =>
        injection hp with hp
        subst hp
        obtain ⟨h1, h2⟩ := parseD_range hv
        have hd : ∀ b, (s.dropWhile isNum).head? = some b → isNum b = false := fun b hb => drop_head _ b hb
        have hn := num_show v (s.dropWhile isNum) h1 h2 (fun b hb => (num_dig (hd b hb)).1)
        rw [hi, List.takeWhile_append_dropWhile] at hn
        rw [hn]
        dsimp only
        rw [if_neg (fun h => (num_dig (hd 45 h)).2 rfl)]
      · cases hp
    · cases hp
  | none =>
    cases hn : numE s with
    | none => rfl
    | some q =>
      obtain ⟨v, r⟩ := q
      dsimp only
      by_cases h45 : r.head? = some 45
      · rw [if_pos h45]
      · exfalso
        obtain ⟨hs, h1, h2⟩ := show_num hn
        have hr := num_rest hn
        obtain ⟨t1, t2⟩ := take_nums (intL_nums v) (r := r) (fun b hb => not_num (hr b hb) (fun e => h45 (by rw [hb, e])))
        rw [← hs] at t1 t2
        unfold intP at hp
        rw [t1, parseD_int h1 h2] at hp
        dsimp only at hp
        rw [if_pos rfl] at hp
        cases hp

/-! ### texts -/
/-- the next byte of a text. -/
def byteE : List UInt8 → Option (UInt8 × List UInt8)
  | [] => none
  | b :: t => if b = 10 then none else if b ≠ 92 then some (b, t) else match t with
    | [] => none
    | c :: r => if c = 92 ∨ c = 39 then some (c, r) else if c = 110 then some (10, r) else none
theorem un_byte {s : List UInt8} (h : s ≠ []) (h39 : s.head? ≠ some 39) : unE s = match byteE s with | none => none | some p => (unE p.2).map fun q => (p.1 :: q.1, q.2) := by
  cases s with
  | nil => exact absurd rfl h
  | cons b t =>
    have hb39 : b ≠ 39 := fun e => h39 (by rw [e]; rfl)
    unfold byteE
    by_cases h10 : b = 10
    · subst h10; rw [un_line]; rfl
    · by_cases h92 : b = 92
      · subst h92
        simp only [h10, if_false]
        rw [if_neg (by simp)]
        cases t with
        | nil => rw [un_open]
        | cons c r =>
          dsimp only
          by_cases hc : c = 92 ∨ c = 39
          · rw [if_pos hc, un_self (by rcases hc with h | h; exact .inr h; exact .inl h)]
          · rw [if_neg hc]
            by_cases h110 : c = 110
            · subst h110
              rw [if_pos rfl, un_end]
            · rw [if_neg h110, un_bad (fun h => hc (by rcases h with h | h; exact .inr h; exact .inl h)) h110]
      · simp only [h10, if_false]
        rw [if_pos h92, un_plain (by rintro (h | h); exact hb39 h; exact h92 h) h10]
theorem byte_less {s r : List UInt8} {c : UInt8} (h : byteE s = some (c, r)) : r.length < s.length := by
  unfold byteE at h
  split at h
  · cases h
  · next b t =>
    split at h
    · cases h
    · split at h
      · injection h with h; injection h with _ h; rw [← h]; simp
      · split at h
        · cases h
        · split at h
          · injection h with h; injection h with _ h; rw [← h]; simp; omega
          · split at h
            · injection h with h; injection h with _ h; rw [← h]; simp; omega
            · cases h
/-- the text that the program reads behind its quote. -/
def textP (s : List UInt8) : Option (Lab × List UInt8) := match unE s with
  | some p => if p.1.length ≤ 32 then some (⟨1, 0, txt p.1⟩, p.2) else none
  | none => none
/-- what has been read of a text, and what is left. -/
def Reads (s l r : List UInt8) : Prop := l.length ≤ 32 ∧ unE s = (unE r).map fun p => (l ++ p.1, p.2)
theorem Reads.start (s : List UInt8) : Reads s [] s := ⟨by simp, by cases unE s <;> rfl⟩
theorem Reads.next {s l r r' : List UInt8} {c : UInt8} (h : Reads s l r) (h0 : r ≠ []) (h39 : r.head? ≠ some 39) (hb : byteE r = some (c, r')) (hl : l.length ≠ 32) : Reads s (l ++ [c]) r' := by
  refine ⟨by rw [List.length_append, List.length_singleton]; have := h.1; omega, ?_⟩
  rw [h.2, un_byte h0 h39, hb]
  cases hu : unE r' <;> simp [hu]
theorem Reads.bad {s l r : List UInt8} (h : Reads s l r) (h0 : r ≠ []) (h39 : r.head? ≠ some 39) (hb : byteE r = none) : textP s = none := by
  unfold textP
  rw [h.2, un_byte h0 h39, hb]; rfl
theorem Reads.long {s l r r' : List UInt8} {c : UInt8} (h : Reads s l r) (h0 : r ≠ []) (h39 : r.head? ≠ some 39) (hb : byteE r = some (c, r')) (hl : l.length = 32) : textP s = none := by
  unfold textP
  rw [h.2, un_byte h0 h39, hb]
  cases hu : unE r' with
  | none => simp [hu]
  | some p =>
    simp [hu]
    omega
theorem Reads.out {s l : List UInt8} (h : Reads s l []) : textP s = none := by
  unfold textP
  rw [h.2]; rfl
theorem Reads.done {s l t : List UInt8} (h : Reads s l (39 :: t)) : textP s = some (⟨1, 0, txt l⟩, t) := by
  unfold textP
  rw [h.2, un_quote]
  dsimp only [Option.map]
  rw [List.append_nil, if_pos h.1]

/-! ### parts, tuples -/
/-- the part that the program reads. -/
def partP (s : List UInt8) : Option (Lab × List UInt8) := match behind 39 s with
  | some t => textP t
  | none => intP s
theorem part_one (s : List UInt8) : partP s = match oneE s with | some (a, r) => if a.k = 0 then (if r.head? = some 45 then none else some (a, r)) else if a.s.size ≤ 32 then some (a, r) else none | none => none := by
  unfold partP
  cases hb : behind 39 s with
  | some t =>
    rw [behind_some hb, one_text]
    unfold textP
    cases hu : unE t with
    | none => simp [hu]
    | some p => simp [hu, txt_size]
  | none =>
    rw [one_num (fun t => behind_none hb)]
    dsimp only
    rw [int_num]
    cases numE s with
    | none => rfl
    | some q =>
      obtain ⟨v, r⟩ := q
      dsimp only [Option.map]
      rw [if_pos rfl]
/-- at most f parts, and a closing bracket, as the program reads them. -/
def tupP : Nat → List UInt8 → Option (List Lab)
  | 0, _ => none
  | f + 1, s => match partP s with
    | none => none
    | some p => if p.2 = [41] then some [p.1] else match behind 44 p.2 with
      | some t => (tupP f t).map (p.1 :: ·)
      | none => none
theorem part_some {s r : List UInt8} {a : Lab} (h : partP s = some (a, r)) : oneE s = some (a, r) ∧ (a.k = 0 ∨ a.s.size ≤ 32) := by
  rw [part_one] at h
  split at h
  · next a' r' ho =>
    split at h
    · split at h
      · cases h
      · injection h with h; injection h with h1 h2; subst h1 h2; exact ⟨ho, .inl ‹_›⟩
    · split at h
      · injection h with h; injection h with h1 h2; subst h1 h2; exact ⟨ho, .inr ‹_›⟩
      · cases h
  · cases h
theorem part_of {s r : List UInt8} {a : Lab} (h : oneE s = some (a, r)) (h1 : a.k = 0 ∨ a.s.size ≤ 32) (h2 : r.head? ≠ some 45) : partP s = some (a, r) := by
  rw [part_one, h]
  dsimp only
  by_cases hk : a.k = 0
  · rw [if_pos hk, if_neg h2]
  · rw [if_neg hk, if_pos (by rcases h1 with h1 | h1; exact absurd h1 hk; exact h1)]
theorem tup_list : ∀ (f : Nat) (s : List UInt8) (l : List Lab), tupP f s = some l → listE f s = some l
  | 0, s, l, h => by cases h
  | f + 1, s, l, h => by
    unfold tupP at h
    split at h
    · cases h
    · next p hp =>
      obtain ⟨a, r⟩ := p
      have ho := (part_some hp).1
      dsimp only at h
      rw [listE, ho]
      split at h
      · next e =>
        subst e
        exact h
      · split at h
        · next t ht =>
          have hr := behind_some ht
          subst hr
          obtain ⟨o, h1, h2⟩ := map_some h
          show (listE f t).map (a :: ·) = _
          rw [tup_list f t o h1, ← h2]; rfl
        · cases h
theorem list_tup : ∀ (f : Nat) (s : List UInt8) (l : List Lab), listE f s = some l → (∀ x ∈ l, x.k = 0 ∨ x.s.size ≤ 32) → tupP f s = some l
  | 0, s, l, h, _ => by cases h
  | f + 1, s, l, h, hs => by
    rw [listE] at h
    unfold tupP
    split at h
    · cases h
    · next a ho =>
      injection h with h
      subst h
      rw [part_of ho (hs a (by simp)) (by decide)]
      rfl
    · next a t ho =>
      obtain ⟨o, h1, h2⟩ := map_some h
      subst h2
      rw [part_of ho (hs a (by simp)) (by simp)]
      dsimp only
      rw [if_neg (by intro e; injection e with e _; exact absurd e (by decide))]
      have hb : behind 44 (44 :: t) = some t := by unfold behind; simp
      rw [hb]
      dsimp only
      rw [list_tup f t o h1 (fun x hx => hs x (by simp [hx]))]; rfl
    · cases h
theorem tup_same (s : List UInt8) : (match tupP 4 s with | some l => tupE l | none => none) = match listE 4 s with | some l => tupE l | none => none := by
  cases ht : tupP 4 s with
  | some l => rw [tup_list 4 s l ht]
  | none =>
    cases hl : listE 4 s with
    | none => rfl
    | some l =>
      dsimp only
      by_cases hs : ∀ x ∈ l, x.k = 0 ∨ x.s.size ≤ 32
      · rw [list_tup 4 s l hl hs] at ht; cases ht
      · obtain ⟨_, _, _, h4⟩ := join_list 4 s l hl
        have hx : l.all simpE = false := by
          rw [List.all_eq_false]
          obtain ⟨x, hx⟩ := Classical.not_forall.1 hs
          obtain ⟨hm, hx⟩ := Classical.not_imp.1 hx
          refine ⟨x, hm, ?_⟩
          rcases h4 x hm with ⟨h5, _⟩ | ⟨h5, _⟩
          · exact absurd (.inl h5) hx
          · obtain ⟨k, n, s'⟩ := x
            obtain rfl : k = 1 := h5
            unfold simpE
            rw [right_one, decide_eq_false (fun h => hx (.inr h))]
            simp
        unfold tupE
        rw [hx, Bool.and_false]; rfl
theorem one_right {s : List UInt8} {a : Lab} {r : List UInt8} (h : oneE s = some (a, r)) : rightE a = true ↔ (a.k = 0 ∨ a.s.size ≤ 32) := by
  obtain ⟨_, h2⟩ := show_one h
  obtain ⟨k, n, s'⟩ := a
  rcases h2 with ⟨h3, h4, _⟩ | ⟨h3, h4⟩
  · obtain rfl : k = 0 := h3
    obtain rfl : s' = noS := h4
    rw [right_zero]
    simp
  · obtain rfl : k = 1 := h3
    obtain rfl : n = 0 := h4
    rw [right_one]
    simp
/-- the label that the program reads. -/
def readP (s : List UInt8) : Option Lab := match behind 40 s with
  | some t => match tupP 4 t with
    | some l => tupE l
    | none => none
  | none => match partP s with
    | some p => if p.2 = [] then some p.1 else none
    | none => none
theorem readP_same (s : List UInt8) : readP s = readE s := by
  unfold readP
  cases hb : behind 40 s with
  | some t =>
    rw [behind_some hb]
    exact tup_same t
  | none =>
    have hr : readE s = match oneE s with | some (a, []) => if rightE a = true then some a else none | _ => none := by
      unfold readE
      split
      · next t => exact absurd rfl (behind_none hb)
      · rfl
    rw [hr]
    dsimp only
    cases ho : oneE s with
    | none =>
      have : partP s = none := by rw [part_one, ho]
      rw [this]
    | some p =>
      obtain ⟨a, r⟩ := p
      have hiff := one_right ho
      by_cases h0 : r = []
      · subst h0
        by_cases hra : rightE a = true
        · rw [part_of ho (hiff.1 hra) (by simp)]
          dsimp only
          rw [if_pos rfl, if_pos hra]
        · have : partP s = none := by
            cases hp : partP s with
            | none => rfl
            | some q =>
              obtain ⟨a', r'⟩ := q
              have h2 := part_some hp
              rw [ho] at h2
              obtain ⟨h3, h4⟩ := h2
              injection h3 with h3; injection h3 with h3 _
              subst h3
              exact absurd (hiff.2 h4) hra
          rw [this]
          dsimp only
          rw [if_neg hra]
      · cases hp : partP s with
        | none =>
          cases r with
          | nil => exact absurd rfl h0
          | cons _ _ => rfl
        | some q =>
          obtain ⟨a', r'⟩ := q
          have h2 := (part_some hp).1
          rw [ho] at h2
          injection h2 with h2; injection h2 with h3 h4
          subst h4
          dsimp only
          rw [if_neg h0]
          cases r with
          | nil => exact absurd rfl h0
          | cons _ _ => rfl
end Go.Proofs.YtblmnbaejfhagaaGreatDoor
