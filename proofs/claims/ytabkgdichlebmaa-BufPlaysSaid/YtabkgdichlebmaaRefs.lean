/-
  The references' New, From, Same, and the law's Same: contracts.
-/
import Derived.Test.YtabkgdichlebmaaFrom
namespace Go.Proofs.Ytabkgdichlebmaa
open Go.ChangeShapes Go.WideShapes Go.ChangeAt Go.RowKit
set_option linter.unusedVariables false

/-! ### rows of truths of the call's own -/
def boolV (f : Nat → Bool) (n : Nat) : List Value := (List.range n).map fun j => Value.bool (f j)
theorem boolV_length (f : Nat → Bool) (n : Nat) : (boolV f n).length = n := by simp [boolV]
theorem boolV_get (f : Nat → Bool) (n j : Nat) (h : j < n) : (boolV f n)[j]? = some (Value.bool (f j)) := by simp [boolV, h]
theorem boolV_congr (f g : Nat → Bool) (n : Nat) (h : ∀ i, i < n → g i = f i) : boolV f n = boolV g n := by
  apply List.ext_getElem?
  intro i
  by_cases hi : i < n
  · rw [boolV_get _ _ _ hi, boolV_get _ _ _ hi, h i hi]
  · rw [List.getElem?_eq_none (by rw [boolV_length]; omega), List.getElem?_eq_none (by rw [boolV_length]; omega)]
theorem boolV_zero (n : Nat) (f : Nat → Bool) (h : ∀ j, j < n → f j = false) : List.replicate n (Value.bool false) = boolV f n := by
  apply List.ext_getElem?
  intro i
  by_cases hi : i < n
  · rw [boolV_get _ _ _ hi, h i hi]; simp [hi]
  · rw [List.getElem?_eq_none (by simp; omega), List.getElem?_eq_none (by rw [boolV_length]; omega)]
/-- the row at v has these truths, and is the call's own. -/
def OwnB (w : World) (base : Nat) (A : Option Addr) (n c : Nat) (f : Nat → Bool) : Prop := w.ownsRow base 4 1 (.slice A n c) n (boolV f n)
theorem OwnB.grow {w w' : World} {base n c : Nat} {A : Option Addr} {f : Nat → Bool} {row : Option Nat} (h : OwnB w base A n c f) (hg : w.grownBy w' row) (hr : row = none ∨ A.map (·.block) ≠ row) : OwnB w' base A n c f := by
  refine World.ownsRow.kept h hg ?_
  cases A with
  | none => exact .inl rfl
  | some a =>
    refine .inr ?_
    rcases hr with hr | hr
    · rw [hr]; simp [Value.ownBlock]
    · simpa [Value.ownBlock] using hr
theorem OwnB.at_ {w : World} {base n c : Nat} {A : Option Addr} {f : Nat → Bool} (h : OwnB w base A n c f) {j : Nat} (hj : j < n) :
    ∃ r, A = some ⟨r, 0, none⟩ ∧ base ≤ r ∧ r < w.heap.size ∧ w.cell? ⟨r, j, none⟩ = some (.bool (f j)) ∧ w.frozen? ⟨r, j, none⟩ = false := by
  obtain ⟨r, rfl, hb, hl, _, _⟩ := own_form h (by omega)
  refine ⟨r, rfl, hb, hl, ?_, World.ownsRow.frozenAt h j⟩
  rw [World.ownsRow.cellAt h j (by omega)]
  exact boolV_get f n j hj
theorem OwnB.put {w : World} {base n c r x : Nat} {f : Nat → Bool} (h : OwnB w base (some ⟨r, 0, none⟩) n c f) (f' : Nat → Bool) (hf : ∀ i, i < n → i ≠ x → f' i = f i) : OwnB (w.setCell ⟨r, x, none⟩ (.bool (f' x))) base (some ⟨r, 0, none⟩) n c f' := by
  have := (World.ownsRow.stored h x (.bool (f' x))).1
  have e : (boolV f n).set x (.bool (f' x)) = boolV f' n := by
    apply List.ext_getElem?
    intro i
    rw [List.getElem?_set]
    by_cases hi : i < n
    · rw [boolV_get _ _ _ hi, boolV_get _ _ _ hi, boolV_length]
      by_cases e : x = i
      · subst e; rw [if_pos rfl, if_pos hi]
      · rw [if_neg e, hf i hi (Ne.symm e)]
    · rw [List.getElem?_eq_none (l := boolV f n) (by rw [boolV_length]; omega), List.getElem?_eq_none (l := boolV f' n) (by rw [boolV_length]; omega)]
      by_cases e : x = i
      · subst e; rw [if_pos rfl, if_neg (by rw [boolV_length]; exact hi)]
      · rw [if_neg e]
  rw [e] at this
  exact this
theorem OwnB.congr {w : World} {base n c : Nat} {A : Option Addr} {f : Nat → Bool} (h : OwnB w base A n c f) (g : Nat → Bool) (hg : ∀ i, i < n → g i = f i) : OwnB w base A n c g := by
  unfold OwnB at h ⊢
  rw [← boolV_congr f g n hg]; exact h
theorem OwnB.bools {w : World} {base n c : Nat} {A : Option Addr} {f : Nat → Bool} (h : OwnB w base A n c f) : Bools w w.heap.size A n (tab n f) := by
  refine ⟨tab_length _ _, fun h0 => ?_⟩
  obtain ⟨r, rfl, hb, hl, _, _⟩ := own_form h h0
  refine ⟨r, 0, rfl, hl, fun k hk => ?_⟩
  rw [Nat.zero_add, World.ownsRow.cellAt h k (by omega), boolV_get f n k hk]
  show some (Value.bool (f k)) = some (Value.bool ((tab n f).getD k false))
  rw [tab_get]
  simp [hk]
theorem OwnB.lower {w : World} {base base' n c : Nat} {A : Option Addr} {f : Nat → Bool} (h : OwnB w base A n c f) (hb : base' ≤ base) : OwnB w base' A n c f := own_lower h hb
theorem info_bool : (Try.prog.info? 4).map (fun i => (i.zero, i.size, i.bytes)) = some (some (.bool false), 1, 1) := by kernel_rfl
def NewBools (f : Nat → Bool) (n : Nat) (w : World) (e : Ending) (w' : World) : Prop :=
  ∃ A c, e = .returned (.slice A n c) ∧ OwnB w' w.heap.size A n c f ∧ w.grownBy w' none
/-! ### the reference's From -/
theorem bit_asked8 (x s : Nat) (h : x < 256) : (bits BinOp.and IntKind.u8 ((x : Int) / 2 ^ s) 1 == 1) = x.testBit s := by
  rw [shr_cast, show (1 : Int) = ((1 : Nat) : Int) from rfl, u8_and_nat _ _ (shr_lt h) (by omega), nat_mask1, Nat.testBit_eq_decide_div_mod_eq]
  by_cases h1 : x / 2 ^ s % 2 = 1
  · rw [h1]; rfl
  · have h0 : x / 2 ^ s % 2 = 0 := by omega
    rw [h0]; rfl
def RefNo (w : World) (e : Ending) (w' : World) : Prop := e = .returned (.tuple #[.slice none 0 0, .bool false]) ∧ w.grownBy w' none
def RefYes (f : Nat → Bool) (n : Nat) (w : World) (e : Ending) (w' : World) : Prop :=
  ∃ A c, e = .returned (.tuple #[.slice A n c, .bool true]) ∧ OwnB w' w.heap.size A n c f ∧ w.grownBy w' none
/-! ### the reference's Same, the law's Same -/
/-- no unlike truth among the first x. -/
def AlikeTo (l m : List Bool) (x : Nat) : Prop := ∀ i, i < x → l.getD i false = m.getD i false
theorem AlikeTo.step {l m : List Bool} {x : Nat} (h : AlikeTo l m x) (e : l.getD x false = m.getD x false) : AlikeTo l m (x + 1) := fun i hi => by
  by_cases hx : i = x
  · subst hx; exact e
  · exact h i (by omega)
def Told (b : Bool) (w : World) (e : Ending) (w' : World) : Prop := e = .returned (.bool b) ∧ ∃ m, w' = w.drewN m
theorem told_eq {b c : Bool} (h : b = c) (w : World) (m : Nat) : Told c w (.returned (.bool b)) (w.drewN m) := ⟨by rw [h], m, rfl⟩
theorem alike_no {l m : List Bool} {x : Nat} (h : ¬ l.getD x false = m.getD x false) : false = decide (l = m) := (decide_eq_false fun e => h (by rw [e])).symm
theorem alike_len {l m : List Bool} (h : ¬ l.length = m.length) : false = decide (l = m) := (decide_eq_false fun e => h (by rw [e])).symm
theorem alike_yes {l m : List Bool} {x : Nat} (h : AlikeTo l m x) (h1 : l.length = x) (h2 : m.length = x) : true = decide (l = m) := (decide_eq_true (list_eq (h1.trans h2.symm) fun i hi => h i (by omega))).symm
end Go.Proofs.Ytabkgdichlebmaa
