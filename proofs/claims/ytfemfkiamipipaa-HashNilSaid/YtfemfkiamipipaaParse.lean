/-
  LABELS: what a tuple's bytes tell; the one order of all labels. Plain: nothing of a program.
-/
import Derived.Test.YtfemfkiamipipaaLab
namespace Go.Proofs.Ytfemfkiamipipaa
open Go
set_option linter.unusedVariables false

/-! ### numbers as bytes, the highest first -/
def numB (l : List UInt8) : Nat := l.foldl (fun u b => u * 256 + b.toNat) 0
theorem numB_snoc (l : List UInt8) (b : UInt8) : numB (l ++ [b]) = numB l * 256 + b.toNat := by unfold numB; rw [List.foldl_append]; rfl
def bytesB : Nat → Nat → List UInt8
  | 0, _ => []
  | k + 1, u => bytesB k (u / 256) ++ [UInt8.ofNat (u % 256)]
theorem bytesB_length (k u : Nat) : (bytesB k u).length = k := by
  induction k generalizing u with
  | zero => rfl
  | succ k ih => unfold bytesB; rw [List.length_append, ih]; rfl
theorem numB_lt (l : List UInt8) : numB l < 256 ^ l.length := by
  obtain ⟨n, hn⟩ : ∃ n, n = l.length := ⟨_, rfl⟩
  induction n generalizing l with
  | zero =>
    obtain rfl : l = [] := List.eq_nil_of_length_eq_zero hn.symm
    decide
  | succ n ih =>
    obtain ⟨l', b, rfl⟩ : ∃ l' b, l = l' ++ [b] := ⟨l.dropLast, l.getLast (fun e => by subst e; simp at hn), (List.dropLast_concat_getLast _).symm⟩
    rw [List.length_append, List.length_singleton] at hn
    have h1 := ih l' (by omega)
    have h2 := b.toNat_lt
    rw [numB_snoc, List.length_append, List.length_singleton, Nat.pow_succ]
    generalize 256 ^ l'.length = P at *
    omega
theorem bytesB_numB (l : List UInt8) : bytesB l.length (numB l) = l := by
  obtain ⟨n, hn⟩ : ∃ n, n = l.length := ⟨_, rfl⟩
  induction n generalizing l with
  | zero =>
    obtain rfl : l = [] := List.eq_nil_of_length_eq_zero hn.symm
    rfl
  | succ n ih =>
    obtain ⟨l', b, rfl⟩ : ∃ l' b, l = l' ++ [b] := ⟨l.dropLast, l.getLast (fun e => by subst e; simp at hn), (List.dropLast_concat_getLast _).symm⟩
    rw [List.length_append, List.length_singleton] at hn
    have h1 := ih l' (by omega)
    have h2 := b.toNat_lt
    rw [numB_snoc, List.length_append, List.length_singleton]
    unfold bytesB
    rw [show (numB l' * 256 + b.toNat) / 256 = numB l' by omega, show (numB l' * 256 + b.toNat) % 256 = b.toNat by omega, h1, UInt8.ofNat_toNat]

/-! ### a tuple's parts -/
def txt (l : List UInt8) : ByteArray := ⟨l.toArray⟩
theorem txt_data (l : List UInt8) : (txt l).data.toList = l := by simp [txt]
theorem txt_of (s : ByteArray) : txt s.data.toList = s := by cases s; simp [txt]
theorem txt_size (l : List UInt8) : (txt l).size = l.length := by simp [txt, ByteArray.size]
/-- a part's bytes. -/
def encP (x : Lab) : List UInt8 := if x.k = 1 then 1 :: UInt8.ofNat x.s.size :: x.s.data.toList else 0 :: bytesB 8 (x.n + 9223372036854775808).toNat
def encL (l : List Lab) : List UInt8 := l.flatMap encP
/-- the parts that bytes tell, at most f of them. -/
def parseL : Nat → List UInt8 → Option (List Lab)
  | _, [] => some []
  | 0, _ :: _ => none
  | f + 1, c :: t =>
    if c = 0 ∧ 8 ≤ t.length then (parseL f (t.drop 8)).map (⟨0, (numB (t.take 8) : Int) - 9223372036854775808, txt []⟩ :: ·)
    else match t with
      | [] => none
      | m :: r => if c = 1 ∧ m.toNat ≤ 32 ∧ m.toNat ≤ r.length then (parseL f (r.drop m.toNat)).map (⟨1, 0, txt (r.take m.toNat)⟩ :: ·) else none
theorem parse_enc : ∀ (f : Nat) (l : List UInt8) (out : List Lab), parseL f l = some out → encL out = l
  | _, [], out, h => by
    have : out = [] := by cases ‹Nat› <;> (simp [parseL] at h; exact h)
    subst this; rfl
  | 0, _ :: _, out, h => by simp [parseL] at h
  | f + 1, c :: t, out, h => by
    unfold parseL at h
    by_cases h0 : c = 0 ∧ 8 ≤ t.length
    · rw [if_pos h0] at h
      cases hp : parseL f (t.drop 8) with
      | none => rw [hp] at h; simp at h
      | some o =>
        rw [hp] at h
        simp at h
        subst h
        have ih := parse_enc f (t.drop 8) o hp
        show encP _ ++ encL o = _
        rw [ih]
        unfold encP
        rw [if_neg (show ¬ (0 : Int) = 1 by decide)]
        have hl : (t.take 8).length = 8 := by rw [List.length_take]; omega
        have e : ((numB (t.take 8) : Int) - 9223372036854775808 + 9223372036854775808).toNat = numB (t.take 8) := by omega
        show 0 :: bytesB 8 _ ++ t.drop 8 = _
        rw [e]
        have h8 := bytesB_numB (t.take 8)
        rw [hl] at h8
        rw [h8, h0.1, List.cons_append, List.take_append_drop]
    · rw [if_neg h0] at h
      cases t with
      | nil => simp at h
      | cons m r =>
        simp only at h
        by_cases h1 : c = 1 ∧ m.toNat ≤ 32 ∧ m.toNat ≤ r.length
        · rw [if_pos h1] at h
          cases hp : parseL f (r.drop m.toNat) with
          | none => rw [hp] at h; simp at h
          | some o =>
            rw [hp] at h
            simp at h
            subst h
            have ih := parse_enc f (r.drop m.toNat) o hp
            show encP _ ++ encL o = _
            rw [ih]
            unfold encP
            rw [if_pos rfl]
            show 1 :: UInt8.ofNat (txt (r.take m.toNat)).size :: (txt (r.take m.toNat)).data.toList ++ r.drop m.toNat = _
            rw [txt_size, txt_data, List.length_take, Nat.min_eq_left h1.2.2, UInt8.ofNat_toNat, h1.1, List.cons_append, List.cons_append, List.take_append_drop]
        · rw [if_neg h1] at h; simp at h

/-! ### parts of a label, right labels, their order -/
def partsE (a : Lab) : Option (List Lab) :=
  if a.k = 0 ∧ a.s = noS ∨ a.k = 1 ∧ a.n = 0 ∧ a.s.size ≤ 32 then some [a]
  else if a.k ≠ 2 then none
  else match parseL 4 a.s.data.toList with
    | some out => if out ≠ [] ∧ a.n = out.length then some out else none
    | none => none
def rightE (a : Lab) : Bool := (partsE a).isSome
theorem parts_tuple {a : Lab} {out : List Lab} (hk : a.k = 2) (h : partsE a = some out) : a = ⟨2, out.length, txt (encL out)⟩ := by
  unfold partsE at h
  rw [if_neg (by omega), if_neg (by omega)] at h
  cases hp : parseL 4 a.s.data.toList with
  | none => rw [hp] at h; simp at h
  | some o =>
    rw [hp] at h
    simp only at h
    by_cases h1 : o ≠ [] ∧ a.n = o.length
    · rw [if_pos h1] at h
      injection h with h
      subst h
      have e := parse_enc 4 _ _ hp
      rw [e, txt_of]
      cases a
      simp at hk h1 ⊢
      exact ⟨hk, h1.2⟩
    · rw [if_neg h1] at h; cases h
theorem parts_simple {a : Lab} {out : List Lab} (hk : a.k ≠ 2) (h : partsE a = some out) : (a.k = 0 ∨ a.k = 1) ∧ out = [a] := by
  unfold partsE at h
  by_cases h1 : a.k = 0 ∧ a.s = noS ∨ a.k = 1 ∧ a.n = 0 ∧ a.s.size ≤ 32
  · rw [if_pos h1] at h
    injection h with h
    exact ⟨by omega, h.symm⟩
  · rw [if_neg h1, if_pos hk] at h; cases h
def partsD (a : Lab) : List Lab := (partsE a).getD []
def cmpE (a b : Lab) : Int :=
  if rightE a = true ∧ rightE b = false then -1
  else if rightE a = false ∧ rightE b = true then 1
  else if rightE a = false ∨ a.k ≠ 2 ∨ b.k ≠ 2 then simC a b
  else listC simC (partsD a) (partsD b)
/-- of which class a label is: right numbers and texts, right tuples, others. -/
def labCls (a : Lab) : Nat := if rightE a = false then 2 else if a.k = 2 then 1 else 0
theorem cmp_class (a b : Lab) : cmpE a b = classC labCls (fun i x y => if i = 1 then listC simC (partsD x) (partsD y) else simC x y) a b := by
  have hsim : ∀ x y : Lab, rightE x = true → rightE y = true → x.k ≠ 2 → y.k = 2 → simC x y = -1 := fun x y h1 _ h3 h4 => by
    obtain ⟨out, ho⟩ := Option.isSome_iff_exists.1 h1
    have := (parts_simple h3 ho).1
    unfold simC
    rw [if_pos ((ahead_iff x y).2 (.inl (by omega)))]
  unfold cmpE classC labCls
  cases ha : rightE a <;> cases hb : rightE b
  · simp
  · simp; split <;> simp
  · simp; split <;> simp
  · by_cases h1 : a.k = 2 <;> by_cases h2 : b.k = 2
    · simp [h1, h2]
    · have := (tot_sim.anti b a trivial trivial)
      rw [hsim b a hb ha h2 h1] at this
      simp [h1, h2]
      omega
    · simp [h1, h2]
      exact hsim a b ha hb h1 h2
    · simp [h1, h2]
theorem tot_cmp : Tot (fun _ => True) cmpE := by
  have h := tot_class (cls := labCls) (c := fun i x y => if i = 1 then listC simC (partsD x) (partsD y) else simC x y) (fun i => by
    by_cases hi : i = 1
    · subst hi
      have h1 := (tot_list tot_sim).map (q := fun x => labCls x = 1) partsD (fun _ _ => trivial) (fun x y hx hy e => by
        have hk : ∀ z, labCls z = 1 → z.k = 2 ∧ ∃ out, partsE z = some out := fun z hz => by
          unfold labCls at hz
          by_cases h1 : rightE z = false
          · rw [if_pos h1] at hz; omega
          · rw [if_neg h1] at hz
            by_cases h2 : z.k = 2
            · exact ⟨h2, Option.isSome_iff_exists.1 (show rightE z = true by cases h : rightE z; exact absurd h h1; rfl)⟩
            · rw [if_neg h2] at hz; omega
        obtain ⟨hx2, o1, ho1⟩ := hk x hx
        obtain ⟨hy2, o2, ho2⟩ := hk y hy
        unfold partsD at e
        rw [ho1, ho2] at e
        simp at e
        subst e
        rw [parts_tuple hx2 ho1, parts_tuple hy2 ho2])
      simpa using h1
    · have h1 := tot_sim.weaken (q := fun x => labCls x = i) (fun _ _ => trivial)
      simpa [hi] using h1)
  have e : cmpE = classC labCls (fun i x y => if i = 1 then listC simC (partsD x) (partsD y) else simC x y) := funext fun a => funext fun b => cmp_class a b
  rw [e]
  exact h
end Go.Proofs.Ytfemfkiamipipaa
