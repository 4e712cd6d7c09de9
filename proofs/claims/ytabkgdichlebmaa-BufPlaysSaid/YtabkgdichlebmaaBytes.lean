/-
  bits.Bytes and its reference: contracts.
-/
import Derived.Test.YtabkgdichlebmaaNext
namespace Go.Proofs.Ytabkgdichlebmaa
open Go.ChangeShapes Go.WideShapes Go.ChangeAt Go.RowKit
set_option linter.unusedVariables false

/-! ### truths as bytes -/
def byteL (l : List Bool) (i : Nat) : Nat := bitsOf (fun b => l.getD (8 * i + b) false) 8
def nb (l : List Bool) : Nat := (l.length + 7) / 8
theorem byteL_lt (l : List Bool) (i : Nat) : byteL l i < 256 := bitsOf_lt _ 8
theorem byteL_bit (l : List Bool) (i b : Nat) (hb : b < 8) : (byteL l i).testBit b = l.getD (8 * i + b) false := by unfold byteL; rw [bitsOf_bit]; simp [hb]
theorem eq_byteL {x i : Nat} {l : List Bool} (hx : x < 256) (h : ∀ b, b < 8 → x.testBit b = l.getD (8 * i + b) false) : x = byteL l i := eq_bitsOf hx h
def bytesL (l : List Bool) : List Nat := (List.range (nb l)).map (byteL l)
theorem bytesL_length (l : List Bool) : (bytesL l).length = nb l := by simp [bytesL]
theorem bytesL_get (l : List Bool) (i : Nat) (h : i < nb l) : (bytesL l).getD i 0 = byteL l i := by simp [bytesL, List.getD, h]
/-- of a word, the byte. -/
theorem byte_word (l : List Bool) (i : Nat) : word l (i / 8) / 2 ^ (i % 8 * 8) % 256 = byteL l i :=
  eq_byteL (Nat.mod_lt _ (by omega)) fun b hb => by
    rw [show (256 : Nat) = 2 ^ 8 by decide, Nat.testBit_mod_two_pow, Nat.testBit_div_two_pow, word_bit _ _ _ (by omega), show 64 * (i / 8) + (b + i % 8 * 8) = 8 * i + b by omega]
    simp [hb]
/-- the cells of a row of bytes, the first i as they must be, the others noughts. -/
def byteV (f : Nat → Nat) (n : Nat) : List Value := (List.range n).map fun j => Value.int .u8 ((f j : Nat) : Int)
theorem byteV_length (f : Nat → Nat) (n : Nat) : (byteV f n).length = n := by simp [byteV]
theorem byteV_get (f : Nat → Nat) (n j : Nat) (h : j < n) : (byteV f n)[j]? = some (Value.int .u8 ((f j : Nat) : Int)) := by simp [byteV, h]
theorem byteV_zero (n : Nat) (f : Nat → Nat) (h : ∀ j, j < n → f j = 0) : List.replicate n (Value.int .u8 0) = byteV f n := by
  apply List.ext_getElem?
  intro i
  by_cases hi : i < n
  · rw [byteV_get _ _ _ hi, h i hi]; simp [hi]
  · rw [List.getElem?_eq_none (by simp; omega), List.getElem?_eq_none (by rw [byteV_length]; omega)]
theorem byteV_set (f g : Nat → Nat) (n j : Nat) (h : ∀ i, i < n → i ≠ j → g i = f i) : (byteV f n).set j (Value.int .u8 ((g j : Nat) : Int)) = byteV g n := by
  apply List.ext_getElem?
  intro i
  rw [List.getElem?_set]
  by_cases hi : i < n
  · rw [byteV_get _ _ _ hi, byteV_get _ _ _ hi, byteV_length]
    by_cases e : j = i
    · subst e; rw [if_pos rfl, if_pos hi]
    · rw [if_neg e, h i hi (Ne.symm e)]
  · rw [List.getElem?_eq_none (by rw [byteV_length]; omega), List.getElem?_eq_none (by rw [byteV_length]; omega)]
    by_cases e : j = i
    · subst e; rw [if_pos rfl, if_neg (by rw [byteV_length]; exact hi)]
    · rw [if_neg e]
theorem byteV_congr (f g : Nat → Nat) (n : Nat) (h : ∀ i, i < n → g i = f i) : byteV f n = byteV g n := by
  apply List.ext_getElem?
  intro i
  by_cases hi : i < n
  · rw [byteV_get _ _ _ hi, byteV_get _ _ _ hi, h i hi]
  · rw [List.getElem?_eq_none (by rw [byteV_length]; omega), List.getElem?_eq_none (by rw [byteV_length]; omega)]
theorem info_u8 : (Try.prog.info? 5).map (fun i => (i.zero, i.size, i.bytes)) = some (some (.int .u8 0), 1, 1) := by kernel_rfl
theorem row_put {w : World} {base g n c x : Nat} {f : Nat → Nat} (h : w.ownsRow base 5 1 (.slice (some ⟨g, 0, none⟩) n c) n (byteV f n)) (f' : Nat → Nat) (hf : ∀ i, i < n → i ≠ x → f' i = f i) (u : Int) (hu : u = ((f' x : Nat) : Int)) :
    (w.setCell ⟨g, x, none⟩ (.int .u8 u)).ownsRow base 5 1 (.slice (some ⟨g, 0, none⟩) n c) n (byteV f' n) := by
  have := (h.stored x (.int .u8 u)).1
  rw [hu, byteV_set f f' n x hf] at this
  rw [hu]
  exact this
theorem shr_byte (v s y : Nat) (h : v / 2 ^ s % 256 = y) : (v : Int) / 2 ^ s % 256 = (y : Int) := by rw [shr_cast, ← h]; omega
/-- a new row of bytes. -/
def NewBytes (f : Nat → Nat) (n : Nat) (w : World) (e : Ending) (w' : World) : Prop :=
  ∃ A c, e = .returned (.slice A n c) ∧ w'.ownsRow w.heap.size 5 1 (.slice A n c) n (byteV f n) ∧ w.grownBy w' none
/-! ### the reference's -/
theorem byte_head_at (l : List Bool) (i : Nat) (h : l.getD i false = true) : byteL (headL l (i + 1)) (i / 8) = byteL (headL l i) (i / 8) ||| 2 ^ (i % 8) := by
  have h2 : 2 ^ (i % 8) < 2 ^ 8 := Nat.pow_lt_pow_right (by omega) (by omega)
  refine (eq_byteL (Nat.or_lt_two_pow (n := 8) (byteL_lt _ _) h2) fun b hb => ?_).symm
  rw [Nat.testBit_or, byteL_bit _ _ _ hb, headL_get, headL_get, Nat.testBit_two_pow]
  by_cases e : i % 8 = b
  · have : 8 * (i / 8) + b = i := by omega
    rw [this, h]; simp [e]
  · have : decide (8 * (i / 8) + b < i + 1) = decide (8 * (i / 8) + b < i) := decide_eq_decide.2 (by omega)
    rw [this]; simp [e]
theorem byte_head_far (l : List Bool) (i j : Nat) (h : j ≠ i / 8) : byteL (headL l (i + 1)) j = byteL (headL l i) j := by
  refine bitsOf_congr fun b hb => ?_
  rw [headL_get, headL_get]
  have : decide (8 * j + b < i + 1) = decide (8 * j + b < i) := decide_eq_decide.2 (by omega)
  rw [this]
theorem byte_head_zero (l : List Bool) (j : Nat) : byteL (headL l 0) j = 0 := by
  have : byteL (headL l 0) j = bitsOf (fun _ => false) 8 := bitsOf_congr fun b _ => by rw [headL_get]; simp
  rw [this]; rfl
theorem u8_bit (s : Nat) (h : s < 8) : ((2 : Int) ^ s) % 256 = ((2 ^ s : Nat) : Int) := by
  have h2 : 2 ^ s < 2 ^ 8 := Nat.pow_lt_pow_right (by omega) h
  have e : (2 : Int) ^ s = ((2 ^ s : Nat) : Int) := by simp
  rw [e]
  generalize 2 ^ s = y at *
  omega
end Go.Proofs.Ytabkgdichlebmaa
