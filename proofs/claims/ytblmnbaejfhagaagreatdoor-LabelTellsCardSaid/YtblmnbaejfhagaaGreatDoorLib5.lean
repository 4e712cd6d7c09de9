/-
  Layer 5: the library's functions that the program's label calls, in this layer's words; the variables that they read.
-/
import Derived.Test.YtblmnbaejfhagaaGreatDoorCut5
import Derived.Test.YtblmnbaejfhagaaGreatDoorShelf
import Derived.Test.YtblmnbaejfhagaaGreatDoorBounds5
namespace Go.Proofs.YtblmnbaejfhagaaGreatDoor
open Go.ChangeShapes Go.WideShapes Go.ChangeAt Go.RowKit
set_option linter.unusedVariables false

/-! ### what a world grown by the library is -/
theorem grown_grow (w : World) (k : Nat) (os : Array Obj) : w.grownBy (Sort.grow (w.drewN k) os) none :=
  ⟨rfl, rfl, rfl, by simp [Sort.grow, World.drewN], fun x hx _ => by simp [Sort.grow, World.drewN, Array.getElem?_append, hx]⟩

/-! ### numbers as text -/
theorem decL_lib (n : Nat) : Lib.decDigits n = decL n := by
  induction n using Nat.strongRecOn with
  | ind n ih =>
    rw [Lib.decDigits]
    by_cases h : n < 10
    · rw [dif_pos h, decL_small h]
      unfold dig
      rw [Nat.mod_eq_of_lt h]
    · rw [dif_neg h, decL_big h, ih _ (by omega)]; rfl
theorem intL_lib (n : Int) : Lib.itoa n = intL n := by
  unfold Lib.itoa intL
  by_cases h : n < 0
  · rw [if_pos h, if_pos h, decL_lib]
  · rw [if_neg h, if_neg h, decL_lib]
    congr 1; omega
theorem libFormat_any (n : Int) (w : World) (h1 : -9223372036854775808 ≤ n) (h2 : n < 9223372036854775808) (hv : Vars w) :
    Calls Tryz.prog 38 #[.int .i64 n, .int .i64 10] w (ToldG (.string (txt (intL n))) w) := by
  refine (Any.strconv_FormatInt_10 Tryz.laysM173 n h1 (by omega) w hv.1).mono ?_
  rintro e w' ⟨rfl, k, os, rfl⟩
  rw [intL_lib]
  exact ⟨rfl, grown_grow w k os⟩
/-- what ParseInt answers: the number, and no error; or an error. -/
def ParsedV (o : Option Int) (v : Int) (ev : Value) : Prop := (o = some v ∧ ev = .nilIface) ∨ (o = none ∧ ∃ t p, ev = .iface t p)
/-- the number that a text spells, by the library. -/
def parseD (l : List UInt8) : Option Int := match Lib.parseIntB 64 l with
  | .ok v => some v
  | _ => none
theorem libParse_any (s : ByteArray) (w : World) (hs : s.size ≤ 1048576) (hv : Vars w) :
    Calls Tryz.prog 50 #[.string s, .int .i64 10, .int .i64 64] w (fun e w' => ∃ v ev, e = .returned (.tuple #[.int .i64 v, ev]) ∧ ParsedV (parseD s.data.toList) v ev ∧ w.grownBy w' none) := by
  unfold parseD
  cases h : Lib.parseIntB 64 s.data.toList
  · next v =>
    refine (Any.strconv_ParseInt_10_at64_ok Tryz.laysC174 s (by omega) v h w).mono ?_
    rintro e w' ⟨rfl, hw⟩
    refine ⟨v, .nilIface, rfl, .inl ⟨rfl, rfl⟩, ?_⟩
    rcases hw with rfl | ⟨t, rfl⟩
    · exact grown_refl _ _
    · exact grown_of_below (Lib.bytesWorld_below _ _ _)
  · obtain ⟨_, ⟨tp, p, hp⟩, _⟩ := hv
    refine (Any.strconv_ParseInt_10_at64_syntax_var Tryz.laysC174 s (by omega) h tp p w hp).mono ?_
    rintro e w' ⟨N, rfl, _, _, hb⟩
    exact ⟨_, _, rfl, .inr ⟨rfl, _, _, rfl⟩, grown_of_below hb⟩
  · obtain ⟨_, _, tp, p, hp⟩ := hv
    refine (Any.strconv_ParseInt_10_at64_range_var Tryz.laysC174 s (by omega) h tp p w hp).mono ?_
    rintro e w' ⟨N, rfl, _, _, hb⟩
    exact ⟨_, _, rfl, .inr ⟨rfl, _, _, rfl⟩, grown_of_below hb⟩

/-! ### texts -/
/-- is it a byte of a number? -/
def isNum (b : UInt8) : Bool := ([45, 48, 49, 50, 51, 52, 53, 54, 55, 56, 57] : List UInt8).contains b
theorem libTrim_any (s : ByteArray) (w : World) :
    Calls Tryz.prog 49 #[.string s, .string ⟨#[45, 48, 49, 50, 51, 52, 53, 54, 55, 56, 57]⟩] w (ToldG (.string (txt (s.data.toList.dropWhile isNum))) w) := by
  refine (Any.strings_TrimLeft_laid Tryz.lays161 (by kernel_rfl) s ⟨#[45, 48, 49, 50, 51, 52, 53, 54, 55, 56, 57]⟩ w (by decide) (ascii_of_all (by decide))).mono ?_
  rintro e w' ⟨rfl, hb⟩
  exact ⟨rfl, grown_of_below hb⟩
/-- a text behind its first byte, if that is c. -/
def behind (c : UInt8) (l : List UInt8) : Option (List UInt8) := match l with
  | b :: t => if b = c then some t else none
  | [] => none
theorem behind_some {c : UInt8} {l t : List UInt8} (h : behind c l = some t) : l = c :: t := by
  unfold behind at h
  split at h
  · split at h
    · next e => injection h with h; rw [e, h]
    · cases h
  · cases h
theorem behind_none {c : UInt8} {l t : List UInt8} (h : behind c l = none) : l ≠ c :: t := by
  rintro rfl
  simp [behind] at h
theorem libCut_any (c : UInt8) (s : ByteArray) (w : World) :
    Calls Tryz.prog 28 #[.string s, .string ⟨#[c]⟩] w fun e w' => e = .returned (.tuple #[.string (match behind c s.data.toList with | some t => txt t | none => s), .bool (behind c s.data.toList).isSome]) ∧ w' = w := by
  refine (Any.strings_CutPrefix Tryz.lays103 s ⟨#[c]⟩ w).mono ?_
  rintro e w' ⟨rfl, rfl⟩
  refine ⟨?_, rfl⟩
  have hh : Lib.hasPrefix s.data.toList [c] = (behind c s.data.toList).isSome := by
    unfold Lib.hasPrefix behind
    cases s.data.toList with
    | nil => rfl
    | cons b t =>
      simp only [List.isPrefixOf]
      by_cases h : b = c
      · subst h; simp
      · have : (c == b) = false := by simp; exact fun e => h e.symm
        rw [this, if_neg h]; rfl
  show Ending.returned (.tuple #[.string ⟨(Lib.trimPrefix s.data.toList [c]).toArray⟩, .bool (Lib.hasPrefix s.data.toList [c])]) = _
  unfold Lib.trimPrefix
  rw [hh]
  cases hb : behind c s.data.toList with
  | some t =>
    have := behind_some hb
    rw [this]; rfl
  | none =>
    simp only [Option.isSome_none, Bool.false_eq_true, if_false]
theorem libJoin_any (bk o c : Nat) (xs : List ByteArray) (w : World) (hcells : ∀ (j : Nat) x, xs[j]? = some x → w.cell? ⟨bk, o + j, none⟩ = some (.string x)) (hbk : bk < w.heap.size) (hcap : xs.length ≤ c) (hlen : (Lib.join (xs.map (·.data.toList)) [44]).length ≤ 1048576) (hn : xs.length ≤ 1048576) :
    Calls Tryz.prog 32 #[.slice (some ⟨bk, o, none⟩) xs.length c, .string ⟨#[44]⟩] w (ToldG (.string (txt (Lib.join (xs.map (·.data.toList)) [44]))) w) := by
  refine (Any.strings_Join Tryz.lays156 Tryz.Builder_Extra_156 bk o c xs ⟨#[44]⟩ w hcells hbk (by omega) hcap (Nat.le_trans hlen (by omega))).mono ?_
  rintro e w' ⟨rfl, hb⟩
  exact ⟨rfl, grown_of_below hb⟩

/-! ### comparing -/
theorem compareBytes_less {a b : List UInt8} (h : Op.bytesLess a b = true) : Lib.compareBytes a b = -1 := by
  induction a generalizing b with
  | nil =>
    cases b with
    | nil => simp [Op.bytesLess] at h
    | cons y b => rfl
  | cons x a ih =>
    cases b with
    | nil => simp [Op.bytesLess] at h
    | cons y b =>
      simp only [Op.bytesLess, Bool.or_eq_true, Bool.and_eq_true, decide_eq_true_eq, beq_iff_eq] at h
      unfold Lib.compareBytes
      rcases h with h | ⟨rfl, h⟩
      · rw [if_pos h]
      · rw [if_neg (UInt8.lt_irrefl x), if_neg (UInt8.lt_irrefl x)]
        exact ih h
theorem compareBytes_self (a : List UInt8) : Lib.compareBytes a a = 0 := by
  induction a with
  | nil => rfl
  | cons x a ih =>
    unfold Lib.compareBytes
    rw [if_neg (UInt8.lt_irrefl x), if_neg (UInt8.lt_irrefl x)]
    exact ih
theorem compareBytes_more {a b : List UInt8} (h : Op.bytesLess b a = true) : Lib.compareBytes a b = 1 := by
  induction a generalizing b with
  | nil => cases b <;> simp [Op.bytesLess] at h
  | cons x a ih =>
    cases b with
    | nil => rfl
    | cons y b =>
      simp only [Op.bytesLess, Bool.or_eq_true, Bool.and_eq_true, decide_eq_true_eq, beq_iff_eq] at h
      unfold Lib.compareBytes
      rcases h with h | ⟨rfl, h⟩
      · rw [if_neg (fun h2 => UInt8.lt_irrefl _ (UInt8.lt_trans h h2)), if_pos h]
      · rw [if_neg (UInt8.lt_irrefl y), if_neg (UInt8.lt_irrefl y)]
        exact ih h
/-- two numbers held against each other. -/
def intC (a b : Int) : Int := if a < b then -1 else if b < a then 1 else 0
theorem libCompareS_any (a b : ByteArray) (w : World) : Calls Tryz.prog 46 #[.string a, .string b] w fun e w' => e = .returned (.int .i64 (Lib.compareBytes a.data.toList b.data.toList)) ∧ w' = w :=
  Any.strings_Compare Tryz.lays106 a b w
end Go.Proofs.YtblmnbaejfhagaaGreatDoor
